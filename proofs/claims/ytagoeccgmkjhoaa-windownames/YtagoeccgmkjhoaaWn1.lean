/- What is known of a slot, in memory; clone.Slot. Written by mk18c.py. -/
import Derived.Test.YtagoeccgmkjhoaaWn0
import Derived.Test.YtagoeccgmkjhoaaSx2
set_option linter.unusedVariables false
set_option linter.unusedSimpArgs false
namespace Go.Proofs.Ytagoeccgmkjhoaa
open Go.RowKit Oct Kvl

def szSl (x : PSl) : Prop := szQ x.vote ∧ szQ x.prep ∧ szL 32 szV x.cert ∧ szQ x.done ∧ szL 32 szV x.votes
theorem szQ_0 : szQ q0 := ⟨Nat.zero_le _, Nat.zero_le _⟩
theorem szVs_0 : szL 32 szV [] := ⟨Nat.zero_le _, fun y h => by cases h⟩
theorem szSl_0 : szSl s0 := ⟨szQ_0, szQ_0, szVs_0, szQ_0, szVs_0⟩
def RSl (G : Nat → Prop) (w : World) (r : List Value) (x : PSl) : Prop :=
  ∃ o1 g1 o2 g2 c1 o3 g3 v1, r = [.int .i64 x.voted.1, .int .i64 x.voted.2, .int .i64 x.vote.1, .int .i64 x.vote.2.1, o1, g1, .int .i64 x.pred.1, .int .i64 x.pred.2, .int .i64 x.prep.1, .int .i64 x.prep.2.1, o2, g2, c1, .int .i64 x.done.1, .int .i64 x.done.2.1, o3, g3, .int .i64 x.bal.1, .int .i64 x.bal.2, v1, .bool x.hv, .bool x.hp, .bool x.hd] ∧
    RT G w o1 x.vote.2.2.1 ∧ RT G w g1 x.vote.2.2.2 ∧ RT G w o2 x.prep.2.2.1 ∧ RT G w g2 x.prep.2.2.2 ∧ RL RVote 2 G w c1 x.cert ∧ RT G w o3 x.done.2.2.1 ∧ RT G w g3 x.done.2.2.2 ∧ RL RVote 2 G w v1 x.votes
theorem mov_sl : Mov RSl := fun _ _ _ _ _ _ h hs hm => by
  obtain ⟨o1, g1, o2, g2, c1, o3, g3, v1, e, t1, t2, t3, t4, t5, t6, t7, t8⟩ := h
  exact ⟨o1, g1, o2, g2, c1, o3, g3, v1, e, t1.mv hm, t2.mv hm, t3.mv hm, t4.mv hm, t5.mv mov_vote hs hm, t6.mv hm, t7.mv hm, t8.mv mov_vote hs hm⟩
theorem RSl.zero (G : Nat → Prop) (w : World) : RSl G w zSl s0 :=
  ⟨_, _, _, _, _, _, _, _, rfl, RT.nil _ _, RT.nil _ _, RT.nil _ _, RT.nil _ _, RL.nil _ _ _ _, RT.nil _ _, RT.nil _ _, RL.nil _ _ _ _⟩
theorem RSl.len {G : Nat → Prop} {w : World} {r : List Value} {x : PSl} (h : RSl G w r x) : r.length = 23 := by
  obtain ⟨o1, g1, o2, g2, c1, o3, g3, v1, rfl, _⟩ := h
  rfl
theorem one_RSl {G : Nat → Prop} {w : World} {r : List Value} {x : PSl} (h : RSl G w r x) : ∀ v ∈ r, v.oneCell' = true := by
  obtain ⟨o1, g1, o2, g2, c1, o3, g3, v1, rfl, t1, t2, t3, t4, t5, t6, t7, t8⟩ := h
  intro v hv
  have k1 := t1.one; have k2 := t2.one; have k3 := t3.one; have k4 := t4.one; have k5 := t5.one; have k6 := t6.one; have k7 := t7.one; have k8 := t8.one
  simp only [List.mem_cons, List.not_mem_nil, or_false] at hv
  rcases hv with rfl | rfl | rfl | rfl | rfl | rfl | rfl | rfl | rfl | rfl | rfl | rfl | rfl | rfl | rfl | rfl | rfl | rfl | rfl | rfl | rfl | rfl | rfl <;> first | rfl | assumption

set_option maxRecDepth 10000 in
set_option maxHeartbeats 8000000 in
theorem cloneSlotS_any (w : World) (r : List Value) (x : PSl) (h : RSl Any w r x) (hz : szSl x) :
    Calls Try.prog 35 #[.agg r.toArray] w fun e w' => ∃ r', e = .returned (.agg r'.toArray) ∧ RSl (From w.heap.size) w' r' x ∧ Below w.heap.size w w' := by
  obtain ⟨o1, g1, o2, g2, c1, o3, g3, v1, rfl, t1, t2, t3, t4, t5, t6, t7, t8⟩ := h
  obtain ⟨w2, hw2⟩ : ∃ w2, w2 = (w.alloc (.cells #[.int .i64 x.voted.1, .int .i64 x.voted.2, .int .i64 x.vote.1, .int .i64 x.vote.2.1, o1, g1, .int .i64 x.pred.1, .int .i64 x.pred.2, .int .i64 x.prep.1, .int .i64 x.prep.2.1, o2, g2, c1, .int .i64 x.done.1, .int .i64 x.done.2.1, o3, g3, .int .i64 x.bal.1, .int .i64 x.bal.2, v1, .bool x.hv, .bool x.hp, .bool x.hd] 33)).alloc (.cells #[.int .i64 0, .int .i64 0, .int .i64 0, .int .i64 0, .slice none 0 0, .slice none 0 0, .int .i64 0, .int .i64 0, .int .i64 0, .int .i64 0, .slice none 0 0, .slice none 0 0, .slice none 0 0, .int .i64 0, .int .i64 0, .slice none 0 0, .slice none 0 0, .int .i64 0, .int .i64 0, .slice none 0 0, .bool false, .bool false, .bool false] 33) := ⟨_, rfl⟩
  have ra : Row w2 w.heap.size 33 [.int .i64 x.voted.1, .int .i64 x.voted.2, .int .i64 x.vote.1, .int .i64 x.vote.2.1, o1, g1, .int .i64 x.pred.1, .int .i64 x.pred.2, .int .i64 x.prep.1, .int .i64 x.prep.2.1, o2, g2, c1, .int .i64 x.done.1, .int .i64 x.done.2.1, o3, g3, .int .i64 x.bal.1, .int .i64 x.bal.2, v1, .bool x.hv, .bool x.hp, .bool x.hd] := by rw [hw2]; exact rowA (Row.new w 33 _) _
  have rr : Row w2 (w.heap.size + 1) 33 [.int .i64 0, .int .i64 0, .int .i64 0, .int .i64 0, .slice none 0 0, .slice none 0 0, .int .i64 0, .int .i64 0, .int .i64 0, .int .i64 0, .slice none 0 0, .slice none 0 0, .slice none 0 0, .int .i64 0, .int .i64 0, .slice none 0 0, .slice none 0 0, .int .i64 0, .int .i64 0, .slice none 0 0, .bool false, .bool false, .bool false] := by
    have h1 : (w.alloc (.cells #[.int .i64 x.voted.1, .int .i64 x.voted.2, .int .i64 x.vote.1, .int .i64 x.vote.2.1, o1, g1, .int .i64 x.pred.1, .int .i64 x.pred.2, .int .i64 x.prep.1, .int .i64 x.prep.2.1, o2, g2, c1, .int .i64 x.done.1, .int .i64 x.done.2.1, o3, g3, .int .i64 x.bal.1, .int .i64 x.bal.2, v1, .bool x.hv, .bool x.hp, .bool x.hd] 33)).heap.size = w.heap.size + 1 := by simp
    rw [hw2, ← h1]
    exact Row.new (w.alloc (.cells #[.int .i64 x.voted.1, .int .i64 x.voted.2, .int .i64 x.vote.1, .int .i64 x.vote.2.1, o1, g1, .int .i64 x.pred.1, .int .i64 x.pred.2, .int .i64 x.prep.1, .int .i64 x.prep.2.1, o2, g2, c1, .int .i64 x.done.1, .int .i64 x.done.2.1, o3, g3, .int .i64 x.bal.1, .int .i64 x.bal.2, v1, .bool x.hv, .bool x.hp, .bool x.hd] 33)) 33 [.int .i64 0, .int .i64 0, .int .i64 0, .int .i64 0, .slice none 0 0, .slice none 0 0, .int .i64 0, .int .i64 0, .int .i64 0, .int .i64 0, .slice none 0 0, .slice none 0 0, .slice none 0 0, .int .i64 0, .int .i64 0, .slice none 0 0, .slice none 0 0, .int .i64 0, .int .i64 0, .slice none 0 0, .bool false, .bool false, .bool false]
  have B : Below w.heap.size w w2 := by rw [hw2]; exact ((Below.refl _ w).alloc (Nat.le_refl _) _).alloc (by simp) _
  have hC : w.heap.size + 2 ≤ w2.heap.size := by rw [hw2]; simp
  go_enter Try.func35, Try.ntmps35
  go_upto_region 1 with fail
  rw [← hw2]
  clear hw2
  have hI : RReq Any w2 [.int .i64 x.vote.1, .int .i64 x.vote.2.1, o1, g1] (x.vote) := ⟨_, _, rfl, t1.mv (Mv.below B), t2.mv (Mv.below B)⟩
  have hG := cloneReqS_any w2 _ _ hI hz.1
  have hrng : World.rangeAt w2 w.heap.size 2 [.int .i64 x.vote.1, .int .i64 x.vote.2.1, o1, g1] := fun q u hq => ra.cell (j := 2 + q) (by
    match q, hq with
    | 0, hq => exact hq
    | 1, hq => exact hq
    | 2, hq => exact hq
    | 3, hq => exact hq)
  go_upto_region 2 with (first
    | (refine wpList_load_mid rfl _ _ rfl w.heap.size 2 rfl [.int .i64 x.vote.1, .int .i64 x.vote.2.1, o1, g1] _ hrng Try.underlying30 rfl (by kernel_rfl) ?_)
    | (go_at_call 43; refine hG.mono ?_; rintro e wa0 ⟨rq0, rfl, hq0, hb0⟩; obtain ⟨a0, b0, rfl, fa0, fb0⟩ := hq0; have rai := ra.below hb0)
    | (refine wl_put rfl _ _ _ rfl w.heap.size 2 [.int .i64 x.vote.1, .int .i64 x.vote.2.1, a0, b0] rfl rfl _ _ rai (show 6 ≤ 23 by decide) (by kernel_rfl) (one4 fa0.one fb0.one) ?_; intro wb0 rbi hg0))
  clear hrng
  have ra : Row wb0 w.heap.size 33 [.int .i64 x.voted.1, .int .i64 x.voted.2, .int .i64 x.vote.1, .int .i64 x.vote.2.1, a0, b0, .int .i64 x.pred.1, .int .i64 x.pred.2, .int .i64 x.prep.1, .int .i64 x.prep.2.1, o2, g2, c1, .int .i64 x.done.1, .int .i64 x.done.2.1, o3, g3, .int .i64 x.bal.1, .int .i64 x.bal.2, v1, .bool x.hv, .bool x.hp, .bool x.hd] := rbi.out
  have rr := (rr.below hb0).grown hg0 (fun h => by injection h; omega)
  have fa0 := ((fa0.mv (Mv.weak (L := w.heap.size + 2) hC)).mv (Mv.from hg0 (by omega) (Nat.le_refl _)))
  have fb0 := ((fb0.mv (Mv.weak (L := w.heap.size + 2) hC)).mv (Mv.from hg0 (by omega) (Nat.le_refl _)))
  have B : Below w.heap.size w wb0 := (below_and B (Nat.le_refl _) hb0).trans (grown_below hg0 (below_and B (Nat.le_refl _) hb0).size (fun k hk => by cases hk; exact Nat.le_refl _))
  have hC := Nat.le_trans hC (Nat.le_trans hb0.size hg0.size)
  clear hG hI rai rbi hb0 hg0
  have hI : RReq Any wb0 [.int .i64 x.prep.1, .int .i64 x.prep.2.1, o2, g2] (x.prep) := ⟨_, _, rfl, t3.mv (Mv.below B), t4.mv (Mv.below B)⟩
  have hG := cloneReqS_any wb0 _ _ hI hz.2.1
  have hrng : World.rangeAt wb0 w.heap.size 8 [.int .i64 x.prep.1, .int .i64 x.prep.2.1, o2, g2] := fun q u hq => ra.cell (j := 8 + q) (by
    match q, hq with
    | 0, hq => exact hq
    | 1, hq => exact hq
    | 2, hq => exact hq
    | 3, hq => exact hq)
  go_upto_region 3 with (first
    | (refine wpList_load_mid rfl _ _ rfl w.heap.size 8 rfl [.int .i64 x.prep.1, .int .i64 x.prep.2.1, o2, g2] _ hrng Try.underlying30 rfl (by kernel_rfl) ?_)
    | (go_at_call 43; refine hG.mono ?_; rintro e wa1 ⟨rq1, rfl, hq1, hb1⟩; obtain ⟨a1, b1, rfl, fa1, fb1⟩ := hq1; have rai := ra.below hb1)
    | (refine wl_put rfl _ _ _ rfl w.heap.size 8 [.int .i64 x.prep.1, .int .i64 x.prep.2.1, a1, b1] rfl rfl _ _ rai (show 12 ≤ 23 by decide) (by kernel_rfl) (one4 fa1.one fb1.one) ?_; intro wb1 rbi hg1))
  clear hrng
  have ra : Row wb1 w.heap.size 33 [.int .i64 x.voted.1, .int .i64 x.voted.2, .int .i64 x.vote.1, .int .i64 x.vote.2.1, a0, b0, .int .i64 x.pred.1, .int .i64 x.pred.2, .int .i64 x.prep.1, .int .i64 x.prep.2.1, a1, b1, c1, .int .i64 x.done.1, .int .i64 x.done.2.1, o3, g3, .int .i64 x.bal.1, .int .i64 x.bal.2, v1, .bool x.hv, .bool x.hp, .bool x.hd] := rbi.out
  have rr := (rr.below hb1).grown hg1 (fun h => by injection h; omega)
  have fa0 := ((fa0.mv (Mv.belowF hb1 (Nat.le_refl _))).mv (Mv.from hg1 (by omega) (Nat.le_refl _)))
  have fb0 := ((fb0.mv (Mv.belowF hb1 (Nat.le_refl _))).mv (Mv.from hg1 (by omega) (Nat.le_refl _)))
  have fa1 := ((fa1.mv (Mv.weak (L := w.heap.size + 2) hC)).mv (Mv.from hg1 (by omega) (Nat.le_refl _)))
  have fb1 := ((fb1.mv (Mv.weak (L := w.heap.size + 2) hC)).mv (Mv.from hg1 (by omega) (Nat.le_refl _)))
  have B : Below w.heap.size w wb1 := (below_and B (Nat.le_refl _) hb1).trans (grown_below hg1 (below_and B (Nat.le_refl _) hb1).size (fun k hk => by cases hk; exact Nat.le_refl _))
  have hC := Nat.le_trans hC (Nat.le_trans hb1.size hg1.size)
  clear hG hI rai rbi hb1 hg1
  have hI := (t5.mv mov_vote B.size (Mv.below B))
  have cI := ra.cell (j := 12) rfl
  have hG := cvotesS_any wb1 _ _ hI (hz.2.2.1)
  go_upto_region 4 with (first
    | (go_at_call 46; refine hG.mono ?_; rintro e wa2 ⟨v2, rfl, f2, hb2⟩; have rai := ra.below hb2)
    | (refine wl_set rfl _ _ _ rfl w.heap.size 12 _ rfl rfl _ _ rai (show 12 < 23 by decide) (by kernel_rfl) f2.one ?_; intro wb2 rbi hg2))
  have ra : Row wb2 w.heap.size 33 [.int .i64 x.voted.1, .int .i64 x.voted.2, .int .i64 x.vote.1, .int .i64 x.vote.2.1, a0, b0, .int .i64 x.pred.1, .int .i64 x.pred.2, .int .i64 x.prep.1, .int .i64 x.prep.2.1, a1, b1, v2, .int .i64 x.done.1, .int .i64 x.done.2.1, o3, g3, .int .i64 x.bal.1, .int .i64 x.bal.2, v1, .bool x.hv, .bool x.hp, .bool x.hd] := rbi.out
  have rr := (rr.below hb2).grown hg2 (fun h => by injection h; omega)
  have fa0 := ((fa0.mv (Mv.belowF hb2 (Nat.le_refl _))).mv (Mv.from hg2 (by omega) (Nat.le_refl _)))
  have fb0 := ((fb0.mv (Mv.belowF hb2 (Nat.le_refl _))).mv (Mv.from hg2 (by omega) (Nat.le_refl _)))
  have fa1 := ((fa1.mv (Mv.belowF hb2 (Nat.le_refl _))).mv (Mv.from hg2 (by omega) (Nat.le_refl _)))
  have fb1 := ((fb1.mv (Mv.belowF hb2 (Nat.le_refl _))).mv (Mv.from hg2 (by omega) (Nat.le_refl _)))
  have f2 := ((f2.mv mov_vote (Nat.le_refl _) (Mv.weak (L := w.heap.size + 2) hC)).mv mov_vote hg2.size (Mv.from hg2 (by omega) (Nat.le_refl _)))
  have B : Below w.heap.size w wb2 := (below_and B (Nat.le_refl _) hb2).trans (grown_below hg2 (below_and B (Nat.le_refl _) hb2).size (fun k hk => by cases hk; exact Nat.le_refl _))
  have hC := Nat.le_trans hC (Nat.le_trans hb2.size hg2.size)
  clear hG hI rai rbi hb2 hg2 cI
  have hI : RReq Any wb2 [.int .i64 x.done.1, .int .i64 x.done.2.1, o3, g3] (x.done) := ⟨_, _, rfl, t6.mv (Mv.below B), t7.mv (Mv.below B)⟩
  have hG := cloneReqS_any wb2 _ _ hI hz.2.2.2.1
  have hrng : World.rangeAt wb2 w.heap.size 13 [.int .i64 x.done.1, .int .i64 x.done.2.1, o3, g3] := fun q u hq => ra.cell (j := 13 + q) (by
    match q, hq with
    | 0, hq => exact hq
    | 1, hq => exact hq
    | 2, hq => exact hq
    | 3, hq => exact hq)
  go_upto_region 5 with (first
    | (refine wpList_load_mid rfl _ _ rfl w.heap.size 13 rfl [.int .i64 x.done.1, .int .i64 x.done.2.1, o3, g3] _ hrng Try.underlying30 rfl (by kernel_rfl) ?_)
    | (go_at_call 43; refine hG.mono ?_; rintro e wa3 ⟨rq3, rfl, hq3, hb3⟩; obtain ⟨a3, b3, rfl, fa3, fb3⟩ := hq3; have rai := ra.below hb3)
    | (refine wl_put rfl _ _ _ rfl w.heap.size 13 [.int .i64 x.done.1, .int .i64 x.done.2.1, a3, b3] rfl rfl _ _ rai (show 17 ≤ 23 by decide) (by kernel_rfl) (one4 fa3.one fb3.one) ?_; intro wb3 rbi hg3))
  clear hrng
  have ra : Row wb3 w.heap.size 33 [.int .i64 x.voted.1, .int .i64 x.voted.2, .int .i64 x.vote.1, .int .i64 x.vote.2.1, a0, b0, .int .i64 x.pred.1, .int .i64 x.pred.2, .int .i64 x.prep.1, .int .i64 x.prep.2.1, a1, b1, v2, .int .i64 x.done.1, .int .i64 x.done.2.1, a3, b3, .int .i64 x.bal.1, .int .i64 x.bal.2, v1, .bool x.hv, .bool x.hp, .bool x.hd] := rbi.out
  have rr := (rr.below hb3).grown hg3 (fun h => by injection h; omega)
  have fa0 := ((fa0.mv (Mv.belowF hb3 (Nat.le_refl _))).mv (Mv.from hg3 (by omega) (Nat.le_refl _)))
  have fb0 := ((fb0.mv (Mv.belowF hb3 (Nat.le_refl _))).mv (Mv.from hg3 (by omega) (Nat.le_refl _)))
  have fa1 := ((fa1.mv (Mv.belowF hb3 (Nat.le_refl _))).mv (Mv.from hg3 (by omega) (Nat.le_refl _)))
  have fb1 := ((fb1.mv (Mv.belowF hb3 (Nat.le_refl _))).mv (Mv.from hg3 (by omega) (Nat.le_refl _)))
  have f2 := ((f2.mv mov_vote hb3.size (Mv.belowF hb3 (Nat.le_refl _))).mv mov_vote hg3.size (Mv.from hg3 (by omega) (Nat.le_refl _)))
  have fa3 := ((fa3.mv (Mv.weak (L := w.heap.size + 2) hC)).mv (Mv.from hg3 (by omega) (Nat.le_refl _)))
  have fb3 := ((fb3.mv (Mv.weak (L := w.heap.size + 2) hC)).mv (Mv.from hg3 (by omega) (Nat.le_refl _)))
  have B : Below w.heap.size w wb3 := (below_and B (Nat.le_refl _) hb3).trans (grown_below hg3 (below_and B (Nat.le_refl _) hb3).size (fun k hk => by cases hk; exact Nat.le_refl _))
  have hC := Nat.le_trans hC (Nat.le_trans hb3.size hg3.size)
  clear hG hI rai rbi hb3 hg3
  have hI := (t8.mv mov_vote B.size (Mv.below B))
  have cI := ra.cell (j := 19) rfl
  have hG := cvotesS_any wb3 _ _ hI (hz.2.2.2.2)
  go_upto_region 6 with (first
    | (go_at_call 46; refine hG.mono ?_; rintro e wa4 ⟨v4, rfl, f4, hb4⟩; have rai := ra.below hb4)
    | (refine wl_set rfl _ _ _ rfl w.heap.size 19 _ rfl rfl _ _ rai (show 19 < 23 by decide) (by kernel_rfl) f4.one ?_; intro wb4 rbi hg4))
  have ra : Row wb4 w.heap.size 33 [.int .i64 x.voted.1, .int .i64 x.voted.2, .int .i64 x.vote.1, .int .i64 x.vote.2.1, a0, b0, .int .i64 x.pred.1, .int .i64 x.pred.2, .int .i64 x.prep.1, .int .i64 x.prep.2.1, a1, b1, v2, .int .i64 x.done.1, .int .i64 x.done.2.1, a3, b3, .int .i64 x.bal.1, .int .i64 x.bal.2, v4, .bool x.hv, .bool x.hp, .bool x.hd] := rbi.out
  have rr := (rr.below hb4).grown hg4 (fun h => by injection h; omega)
  have fa0 := ((fa0.mv (Mv.belowF hb4 (Nat.le_refl _))).mv (Mv.from hg4 (by omega) (Nat.le_refl _)))
  have fb0 := ((fb0.mv (Mv.belowF hb4 (Nat.le_refl _))).mv (Mv.from hg4 (by omega) (Nat.le_refl _)))
  have fa1 := ((fa1.mv (Mv.belowF hb4 (Nat.le_refl _))).mv (Mv.from hg4 (by omega) (Nat.le_refl _)))
  have fb1 := ((fb1.mv (Mv.belowF hb4 (Nat.le_refl _))).mv (Mv.from hg4 (by omega) (Nat.le_refl _)))
  have f2 := ((f2.mv mov_vote hb4.size (Mv.belowF hb4 (Nat.le_refl _))).mv mov_vote hg4.size (Mv.from hg4 (by omega) (Nat.le_refl _)))
  have fa3 := ((fa3.mv (Mv.belowF hb4 (Nat.le_refl _))).mv (Mv.from hg4 (by omega) (Nat.le_refl _)))
  have fb3 := ((fb3.mv (Mv.belowF hb4 (Nat.le_refl _))).mv (Mv.from hg4 (by omega) (Nat.le_refl _)))
  have f4 := ((f4.mv mov_vote (Nat.le_refl _) (Mv.weak (L := w.heap.size + 2) hC)).mv mov_vote hg4.size (Mv.from hg4 (by omega) (Nat.le_refl _)))
  have B : Below w.heap.size w wb4 := (below_and B (Nat.le_refl _) hb4).trans (grown_below hg4 (below_and B (Nat.le_refl _) hb4).size (fun k hk => by cases hk; exact Nat.le_refl _))
  have hC := Nat.le_trans hC (Nat.le_trans hb4.size hg4.size)
  clear hG hI rai rbi hb4 hg4 cI
  have hone : ∀ v ∈ [.int .i64 x.voted.1, .int .i64 x.voted.2, .int .i64 x.vote.1, .int .i64 x.vote.2.1, a0, b0, .int .i64 x.pred.1, .int .i64 x.pred.2, .int .i64 x.prep.1, .int .i64 x.prep.2.1, a1, b1, v2, .int .i64 x.done.1, .int .i64 x.done.2.1, a3, b3, .int .i64 x.bal.1, .int .i64 x.bal.2, v4, .bool x.hv, .bool x.hp, .bool x.hd], v.oneCell' = true := by
    intro v hv
    have k_fa0 := fa0.one; have k_fb0 := fb0.one; have k_fa1 := fa1.one; have k_fb1 := fb1.one; have k_f2 := f2.one; have k_fa3 := fa3.one; have k_fb3 := fb3.one; have k_f4 := f4.one
    simp only [List.mem_cons, List.not_mem_nil, or_false] at hv
    rcases hv with rfl | rfl | rfl | rfl | rfl | rfl | rfl | rfl | rfl | rfl | rfl | rfl | rfl | rfl | rfl | rfl | rfl | rfl | rfl | rfl | rfl | rfl | rfl <;> first | rfl | assumption
  go_wp2_with (first
    | (refine wl_load rfl _ _ rfl w.heap.size rfl _ _ ra _ Try.underlying33 rfl (by kernel_rfl) ?_)
    | (refine wl_store rfl _ _ _ rfl (w.heap.size + 1) [.int .i64 x.voted.1, .int .i64 x.voted.2, .int .i64 x.vote.1, .int .i64 x.vote.2.1, a0, b0, .int .i64 x.pred.1, .int .i64 x.pred.2, .int .i64 x.prep.1, .int .i64 x.prep.2.1, a1, b1, v2, .int .i64 x.done.1, .int .i64 x.done.2.1, a3, b3, .int .i64 x.bal.1, .int .i64 x.bal.2, v4, .bool x.hv, .bool x.hp, .bool x.hd] rfl rfl _ _ rr rfl (by kernel_rfl) hone ?_; intro w9 rr9 hg9))
  have B9 : Below w.heap.size w w9 := B.trans (grown_below hg9 B.size (fun k hk => by cases hk; omega))
  have fa0 := ((fa0.mv (Mv.from hg9 (by omega) (Nat.le_refl _))).mv (Mv.weak (L := w.heap.size) (by omega)))
  have fb0 := ((fb0.mv (Mv.from hg9 (by omega) (Nat.le_refl _))).mv (Mv.weak (L := w.heap.size) (by omega)))
  have fa1 := ((fa1.mv (Mv.from hg9 (by omega) (Nat.le_refl _))).mv (Mv.weak (L := w.heap.size) (by omega)))
  have fb1 := ((fb1.mv (Mv.from hg9 (by omega) (Nat.le_refl _))).mv (Mv.weak (L := w.heap.size) (by omega)))
  have f2 := ((f2.mv mov_vote hg9.size (Mv.from hg9 (by omega) (Nat.le_refl _))).mv mov_vote (Nat.le_refl _) (Mv.weak (L := w.heap.size) (by omega)))
  have fa3 := ((fa3.mv (Mv.from hg9 (by omega) (Nat.le_refl _))).mv (Mv.weak (L := w.heap.size) (by omega)))
  have fb3 := ((fb3.mv (Mv.from hg9 (by omega) (Nat.le_refl _))).mv (Mv.weak (L := w.heap.size) (by omega)))
  have f4 := ((f4.mv mov_vote hg9.size (Mv.from hg9 (by omega) (Nat.le_refl _))).mv mov_vote (Nat.le_refl _) (Mv.weak (L := w.heap.size) (by omega)))
  refine bodyPost_ret (v := .agg ([.int .i64 x.voted.1, .int .i64 x.voted.2, .int .i64 x.vote.1, .int .i64 x.vote.2.1, a0, b0, .int .i64 x.pred.1, .int .i64 x.pred.2, .int .i64 x.prep.1, .int .i64 x.prep.2.1, a1, b1, v2, .int .i64 x.done.1, .int .i64 x.done.2.1, a3, b3, .int .i64 x.bal.1, .int .i64 x.bal.2, v4, .bool x.hv, .bool x.hp, .bool x.hd] : List Value).toArray) (results_cell_row rfl _ _ (w.heap.size + 1) _ _ (0, 0) _ (by rfl) rr9.out Try.underlying33 rfl (by kernel_rfl)) rfl ?_
  exact ⟨_, rfl, ⟨_, _, _, _, _, _, _, _, rfl, fa0, fb0, fa1, fb1, f2, fa3, fb3, f4⟩, B9⟩
end Go.Proofs.Ytagoeccgmkjhoaa
