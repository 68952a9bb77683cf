/- The document's comparison of what is known of two slots. Written by mk19s.py. -/
import Derived.Test.YtjloehkolnjnhaaXRAS
import Derived.Test.YtjloehkolnjnhaaXRAV
import Derived.Test.YtjloehkolnjnhaaXRAM
set_option linter.unusedSimpArgs false
set_option linter.unusedVariables false
namespace Go.Proofs.Ytjloehkolnjnhaa
open Go.RowKit Oct Kvl Bal
set_option maxRecDepth 10000 in
set_option maxHeartbeats 4000000 in
theorem sameSl_eq (w : World) (r1 r2 : List Value) (x : PSl) (h1 : RSl Any w r1 x) (h2 : RSl Any w r2 x) :
    Calls Try.prog 11 #[.agg r1.toArray, .agg r2.toArray] w fun e w' => e = .returned (.bool true) ∧ Below w.heap.size w w' := by
  obtain ⟨o1a, g1a, o2a, g2a, c1a, o3a, g3a, v1a, rfl, t1a, t2a, t3a, t4a, t5a, t6a, t7a, t8a⟩ := h1
  obtain ⟨o1b, g1b, o2b, g2b, c1b, o3b, g3b, v1b, rfl, t1b, t2b, t3b, t4b, t5b, t6b, t7b, t8b⟩ := h2
  obtain ⟨w1, hw1⟩ : ∃ u, u = w.alloc (.cells #[.int .i64 x.voted.1, .int .i64 x.voted.2, .int .i64 x.vote.1, .int .i64 x.vote.2.1, o1a, g1a, .int .i64 x.pred.1, .int .i64 x.pred.2, .int .i64 x.prep.1, .int .i64 x.prep.2.1, o2a, g2a, c1a, .int .i64 x.done.1, .int .i64 x.done.2.1, o3a, g3a, .int .i64 x.bal.1, .int .i64 x.bal.2, v1a, .bool x.hv, .bool x.hp, .bool x.hd] 33) := ⟨_, rfl⟩
  obtain ⟨w2, hw2⟩ : ∃ u, u = w1.alloc (.cells #[.int .i64 x.voted.1, .int .i64 x.voted.2, .int .i64 x.vote.1, .int .i64 x.vote.2.1, o1b, g1b, .int .i64 x.pred.1, .int .i64 x.pred.2, .int .i64 x.prep.1, .int .i64 x.prep.2.1, o2b, g2b, c1b, .int .i64 x.done.1, .int .i64 x.done.2.1, o3b, g3b, .int .i64 x.bal.1, .int .i64 x.bal.2, v1b, .bool x.hv, .bool x.hp, .bool x.hd] 33) := ⟨_, rfl⟩
  have e1 : w1.heap.size = w.heap.size + 1 := by rw [hw1]; simp
  have B1 : Below w.heap.size w w1 := by rw [hw1]; exact below_alloc _ _
  have B2 : Below w1.heap.size w1 w2 := by rw [hw2]; exact below_alloc _ _
  have ra : Row w1 w.heap.size 33 [.int .i64 x.voted.1, .int .i64 x.voted.2, .int .i64 x.vote.1, .int .i64 x.vote.2.1, o1a, g1a, .int .i64 x.pred.1, .int .i64 x.pred.2, .int .i64 x.prep.1, .int .i64 x.prep.2.1, o2a, g2a, c1a, .int .i64 x.done.1, .int .i64 x.done.2.1, o3a, g3a, .int .i64 x.bal.1, .int .i64 x.bal.2, v1a, .bool x.hv, .bool x.hp, .bool x.hd] := by rw [hw1]; exact Row.new _ _ _
  have rb : Row w2 (w.heap.size + 1) 33 [.int .i64 x.voted.1, .int .i64 x.voted.2, .int .i64 x.vote.1, .int .i64 x.vote.2.1, o1b, g1b, .int .i64 x.pred.1, .int .i64 x.pred.2, .int .i64 x.prep.1, .int .i64 x.prep.2.1, o2b, g2b, c1b, .int .i64 x.done.1, .int .i64 x.done.2.1, o3b, g3b, .int .i64 x.bal.1, .int .i64 x.bal.2, v1b, .bool x.hv, .bool x.hp, .bool x.hd] := by rw [hw2, ← e1]; exact Row.new _ _ _
  have ra := ra.below B2
  have BB := below_and B1 (Nat.le_refl _) B2
  have hw : w2 = (w.alloc (.cells #[.int .i64 x.voted.1, .int .i64 x.voted.2, .int .i64 x.vote.1, .int .i64 x.vote.2.1, o1a, g1a, .int .i64 x.pred.1, .int .i64 x.pred.2, .int .i64 x.prep.1, .int .i64 x.prep.2.1, o2a, g2a, c1a, .int .i64 x.done.1, .int .i64 x.done.2.1, o3a, g3a, .int .i64 x.bal.1, .int .i64 x.bal.2, v1a, .bool x.hv, .bool x.hp, .bool x.hd] 33)).alloc (.cells #[.int .i64 x.voted.1, .int .i64 x.voted.2, .int .i64 x.vote.1, .int .i64 x.vote.2.1, o1b, g1b, .int .i64 x.pred.1, .int .i64 x.pred.2, .int .i64 x.prep.1, .int .i64 x.prep.2.1, o2b, g2b, c1b, .int .i64 x.done.1, .int .i64 x.done.2.1, o3b, g3b, .int .i64 x.bal.1, .int .i64 x.bal.2, v1b, .bool x.hv, .bool x.hp, .bool x.hd] 33) := by rw [hw2, hw1]
  clear hw1 hw2 e1 B1 B2
  have hb1 := balNe_eq x.voted.1 x.voted.2
  have hb2 := balNe_eq x.pred.1 x.pred.2
  have hb3 := balNe_eq x.bal.1 x.bal.2
  have n1 : (x.hv != x.hv) = false := by simp
  have n2 : (x.hp != x.hp) = false := by simp
  have n3 : (x.hd != x.hd) = false := by simp
  have HQ1 := (show Hid (∀ u, Below w2.heap.size w2 u → _) from fun u hu => sameReq_eq u [.int .i64 x.vote.1, .int .i64 x.vote.2.1, o1a, g1a] [.int .i64 x.vote.1, .int .i64 x.vote.2.1, o1b, g1b] x.vote ⟨_, _, rfl, t1a.mv (Mv.below (below_and BB (Nat.le_refl _) hu)), t2a.mv (Mv.below (below_and BB (Nat.le_refl _) hu))⟩ ⟨_, _, rfl, t1b.mv (Mv.below (below_and BB (Nat.le_refl _) hu)), t2b.mv (Mv.below (below_and BB (Nat.le_refl _) hu))⟩)
  have HQ2 := (show Hid (∀ u, Below w2.heap.size w2 u → _) from fun u hu => sameReq_eq u [.int .i64 x.prep.1, .int .i64 x.prep.2.1, o2a, g2a] [.int .i64 x.prep.1, .int .i64 x.prep.2.1, o2b, g2b] x.prep ⟨_, _, rfl, t3a.mv (Mv.below (below_and BB (Nat.le_refl _) hu)), t4a.mv (Mv.below (below_and BB (Nat.le_refl _) hu))⟩ ⟨_, _, rfl, t3b.mv (Mv.below (below_and BB (Nat.le_refl _) hu)), t4b.mv (Mv.below (below_and BB (Nat.le_refl _) hu))⟩)
  have HQ3 := (show Hid (∀ u, Below w2.heap.size w2 u → _) from fun u hu => sameReq_eq u [.int .i64 x.done.1, .int .i64 x.done.2.1, o3a, g3a] [.int .i64 x.done.1, .int .i64 x.done.2.1, o3b, g3b] x.done ⟨_, _, rfl, t6a.mv (Mv.below (below_and BB (Nat.le_refl _) hu)), t7a.mv (Mv.below (below_and BB (Nat.le_refl _) hu))⟩ ⟨_, _, rfl, t6b.mv (Mv.below (below_and BB (Nat.le_refl _) hu)), t7b.mv (Mv.below (below_and BB (Nat.le_refl _) hu))⟩)
  have HV1 := (show Hid (∀ u, Below w2.heap.size w2 u → _) from fun u hu => sameVotes_eq u c1a c1b x.cert (t5a.mv mov_vote (below_and BB (Nat.le_refl _) hu).size (Mv.below (below_and BB (Nat.le_refl _) hu))) (t5b.mv mov_vote (below_and BB (Nat.le_refl _) hu).size (Mv.below (below_and BB (Nat.le_refl _) hu))))
  have HV2 := (show Hid (∀ u, Below w2.heap.size w2 u → _) from fun u hu => sameVotes_eq u v1a v1b x.votes (t8a.mv mov_vote (below_and BB (Nat.le_refl _) hu).size (Mv.below (below_and BB (Nat.le_refl _) hu))) (t8b.mv mov_vote (below_and BB (Nat.le_refl _) hu).size (Mv.below (below_and BB (Nat.le_refl _) hu))))
  go_enter Try.func11, Try.ntmps11
  go_upto_region 1 with fail
  rw [← hw]
  clear hw
  have a20 := ra.cell (j := 20) rfl; have b20 := rb.cell (j := 20) rfl
  have a21 := ra.cell (j := 21) rfl; have b21 := rb.cell (j := 21) rfl
  have a22 := ra.cell (j := 22) rfl; have b22 := rb.cell (j := 22) rfl
  go_upto_region 3 with (first
    | (refine wl_part_w (by rfl) _ _ rfl w.heap.size 0 rfl _ _ ra [.int .i64 x.voted.1, .int .i64 x.voted.2] rfl _ Try.underlying27 rfl (by kernel_rfl) ?_)
    | (refine wl_part_w (by rfl) _ _ rfl (w.heap.size + 1) 0 rfl _ _ rb [.int .i64 x.voted.1, .int .i64 x.voted.2] rfl _ Try.underlying27 rfl (by kernel_rfl) ?_)
    | (refine wl_part_w (by rfl) _ _ rfl w.heap.size 6 rfl _ _ ra [.int .i64 x.pred.1, .int .i64 x.pred.2] rfl _ Try.underlying27 rfl (by kernel_rfl) ?_)
    | (refine wl_part_w (by rfl) _ _ rfl (w.heap.size + 1) 6 rfl _ _ rb [.int .i64 x.pred.1, .int .i64 x.pred.2] rfl _ Try.underlying27 rfl (by kernel_rfl) ?_)
    | (refine wl_part_w (by rfl) _ _ rfl w.heap.size 17 rfl _ _ ra [.int .i64 x.bal.1, .int .i64 x.bal.2] rfl _ Try.underlying27 rfl (by kernel_rfl) ?_)
    | (refine wl_part_w (by rfl) _ _ rfl (w.heap.size + 1) 17 rfl _ _ rb [.int .i64 x.bal.1, .int .i64 x.bal.2] rfl _ Try.underlying27 rfl (by kernel_rfl) ?_))
  clear a20 b20 a21 b21 a22 b22 hb1 hb2 hb3 n1 n2 n3
  have SK := (show Hid (∀ u, Below w2.heap.size w2 u → Row u w.heap.size 33 [.int .i64 x.voted.1, .int .i64 x.voted.2, .int .i64 x.vote.1, .int .i64 x.vote.2.1, o1a, g1a, .int .i64 x.pred.1, .int .i64 x.pred.2, .int .i64 x.prep.1, .int .i64 x.prep.2.1, o2a, g2a, c1a, .int .i64 x.done.1, .int .i64 x.done.2.1, o3a, g3a, .int .i64 x.bal.1, .int .i64 x.bal.2, v1a, .bool x.hv, .bool x.hp, .bool x.hd] ∧ Row u (w.heap.size + 1) 33 [.int .i64 x.voted.1, .int .i64 x.voted.2, .int .i64 x.vote.1, .int .i64 x.vote.2.1, o1b, g1b, .int .i64 x.pred.1, .int .i64 x.pred.2, .int .i64 x.prep.1, .int .i64 x.prep.2.1, o2b, g2b, c1b, .int .i64 x.done.1, .int .i64 x.done.2.1, o3b, g3b, .int .i64 x.bal.1, .int .i64 x.bal.2, v1b, .bool x.hv, .bool x.hp, .bool x.hd]) from fun u hu => ⟨ra.below hu, rb.below hu⟩)
  have G2 : Below w2.heap.size w2 w2 := Below.refl _ _
  have a12 : ∀ u, Below w2.heap.size w2 u → u.cell? ⟨w.heap.size, 12, none⟩ = some c1a := fun u hu => (ra.below hu).cell (j := 12) rfl
  have a19 : ∀ u, Below w2.heap.size w2 u → u.cell? ⟨w.heap.size, 19, none⟩ = some v1a := fun u hu => (ra.below hu).cell (j := 19) rfl
  have b12 : ∀ u, Below w2.heap.size w2 u → u.cell? ⟨w.heap.size + 1, 12, none⟩ = some c1b := fun u hu => (rb.below hu).cell (j := 12) rfl
  have b19 : ∀ u, Below w2.heap.size w2 u → u.cell? ⟨w.heap.size + 1, 19, none⟩ = some v1b := fun u hu => (rb.below hu).cell (j := 19) rfl
  clear ra rb
  have A12 := (show Hid (∀ u, Below w2.heap.size w2 u → u.cell? ⟨w.heap.size, 12, none⟩ = some c1a) from a12)
  have A19 := (show Hid (∀ u, Below w2.heap.size w2 u → u.cell? ⟨w.heap.size, 19, none⟩ = some v1a) from a19)
  have B12 := (show Hid (∀ u, Below w2.heap.size w2 u → u.cell? ⟨w.heap.size + 1, 12, none⟩ = some c1b) from b12)
  have B19 := (show Hid (∀ u, Below w2.heap.size w2 u → u.cell? ⟨w.heap.size + 1, 19, none⟩ = some v1b) from b19)
  clear a12 a19 b12 b19
  obtain ⟨ra0, rb0⟩ := SK.out w2 G2
  go_wp2_with (first
    | (go_at_call 33; refine (HV2.out u4 G6).mono ?_; rintro e u5 ⟨rfl, bu5⟩; have G7 := below_and G6 (Nat.le_refl _) bu5)
    | (go_at_call 33; refine (HV1.out u3 G5).mono ?_; rintro e u4 ⟨rfl, bu4⟩; have G6 := below_and G5 (Nat.le_refl _) bu4; have ka2 := A19.out u4 G6; have kb2 := B19.out u4 G6)
    | (go_at_call 22; refine (HQ3.out u2 G4).mono ?_; rintro e u3 ⟨rfl, bu3⟩; have G5 := below_and G4 (Nat.le_refl _) bu3; have ka := A12.out u3 G5; have kb := B12.out u3 G5)
    | (refine wl_part_w (by rfl) _ _ rfl (w.heap.size + 1) 13 rfl _ _ rb2 [.int .i64 x.done.1, .int .i64 x.done.2.1, o3b, g3b] rfl _ Try.underlying30 rfl (by kernel_rfl) ?_)
    | (refine wl_part_w (by rfl) _ _ rfl w.heap.size 13 rfl _ _ ra2 [.int .i64 x.done.1, .int .i64 x.done.2.1, o3a, g3a] rfl _ Try.underlying30 rfl (by kernel_rfl) ?_)
    | (go_at_call 22; refine (HQ2.out u1 G3).mono ?_; rintro e u2 ⟨rfl, bu2⟩; have G4 := below_and G3 (Nat.le_refl _) bu2; obtain ⟨ra2, rb2⟩ := SK.out u2 G4)
    | (refine wl_part_w (by rfl) _ _ rfl (w.heap.size + 1) 8 rfl _ _ rb1 [.int .i64 x.prep.1, .int .i64 x.prep.2.1, o2b, g2b] rfl _ Try.underlying30 rfl (by kernel_rfl) ?_)
    | (refine wl_part_w (by rfl) _ _ rfl w.heap.size 8 rfl _ _ ra1 [.int .i64 x.prep.1, .int .i64 x.prep.2.1, o2a, g2a] rfl _ Try.underlying30 rfl (by kernel_rfl) ?_)
    | (go_at_call 22; refine (HQ1.out w2 G2).mono ?_; rintro e u1 ⟨rfl, bu1⟩; have G3 := below_and G2 (Nat.le_refl _) bu1; obtain ⟨ra1, rb1⟩ := SK.out u1 G3)
    | (refine wl_part_w (by rfl) _ _ rfl (w.heap.size + 1) 2 rfl _ _ rb0 [.int .i64 x.vote.1, .int .i64 x.vote.2.1, o1b, g1b] rfl _ Try.underlying30 rfl (by kernel_rfl) ?_)
    | (refine wl_part_w (by rfl) _ _ rfl w.heap.size 2 rfl _ _ ra0 [.int .i64 x.vote.1, .int .i64 x.vote.2.1, o1a, g1a] rfl _ Try.underlying30 rfl (by kernel_rfl) ?_))
  go_ret
  exact ⟨rfl, below_and BB (Nat.le_refl _) G7⟩
end Go.Proofs.Ytjloehkolnjnhaa
