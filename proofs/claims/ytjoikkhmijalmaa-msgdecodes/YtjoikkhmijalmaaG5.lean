/- The document's reading: votes. Written by mk5g.py. -/
import Derived.Test.YtjoikkhmijalmaaG4
set_option linter.unusedVariables false
set_option linter.unusedSimpArgs false
namespace Go.Proofs.Ytjoikkhmijalmaa
open Go.RowKit Oct

set_option maxRecDepth 10000 in
set_option maxHeartbeats 4000000 in
theorem getVotes_any (w : World) (bv : Value) (l : List Int) (p : Nat) (bad : Bool) (hrd : Rd w bv l) (hp : p ≤ l.length) (hl : l.length ≤ 1048576) :
    Calls Try.prog 39 #[.agg #[bv, .int .i64 (p : Int), .bool bad]] w (GPost (cL cVote) (RL RVote 2) w bv l p bad) := by
  obtain ⟨ab, cb, rfl, hcb⟩ := hrd.2.form
  obtain ⟨w2, hw2⟩ : ∃ w2, w2 = ((w.alloc (.cells ([.slice ab (bc l).length cb, .int .i64 (p : Int), .bool bad] : List Value).toArray 52)).alloc (.cells ([.slice none 0 0, .int .i64 0, .bool false] : List Value).toArray 52)).alloc (.cells #[] 79) := ⟨_, rfl⟩
  have hs : Row w2 w.heap.size 52 [.slice ab (bc l).length cb, .int .i64 (p : Int), .bool bad] := by rw [hw2]; exact row_alloc (row_alloc (Row.new w _ _) _) _
  have ho : Row w2 (w.heap.size + 1) 52 [.slice none 0 0, .int .i64 0, .bool false] := by
    rw [hw2]; refine row_alloc ?_ _
    have := Row.new (w.alloc (.cells ([.slice ab (bc l).length cb, .int .i64 (p : Int), .bool bad] : List Value).toArray 52)) 52 [.slice none 0 0, .int .i64 0, .bool false]
    simpa using this
  have hL2 : LB RVote 79 2 (w.heap.size + 1 + 1) w2 (.slice (some ⟨w.heap.size + 1 + 1, 0, none⟩) 0 0) [] := by
    rw [hw2]
    have := LB.fresh RVote 79 2 (w.heap.size + 1 + 1) ((w.alloc (.cells ([.slice ab (bc l).length cb, .int .i64 (p : Int), .bool bad] : List Value).toArray 52)).alloc (.cells ([.slice none 0 0, .int .i64 0, .bool false] : List Value).toArray 52)) (by simp)
    simpa using this
  have B : Below w.heap.size w w2 := by rw [hw2]; exact (((Below.refl _ w).alloc (Nat.le_refl _) _).alloc (by simp) _).alloc (by simp; omega) _
  have hC : w.heap.size + 1 + 1 ≤ w2.heap.size := by rw [hw2]; simp
  have hG := getMany_any _ _ l p bad (hrd.below B) hp hl
  go_enter Try.func39, Try.ntmps39
  go_upto_region 2 with fail
  rw [← hw2]
  clear hw2
  go_upto_region 4 with (first
    | (refine wl_load rfl _ _ rfl w.heap.size rfl _ _ hs _ Try.underlying52 rfl (by kernel_rfl) ?_)
    | (go_at_call 61; refine hG.mono ?_; rintro e w3 ⟨n, v3, p1, b1, rfl, hp1, hb3, rfl, he⟩; have hs3 := hs.below hb3)
    | (refine wl_store rfl _ _ _ rfl w.heap.size [.slice ab (bc l).length cb, .int .i64 (p1 : Int), .bool b1] rfl rfl _ _ hs3 rfl (by kernel_rfl) (one_in rfl) ?_; intro w4 hs4 hg4))
  have hs := hs4.out
  have ho := (ho.below hb3).grown hg4 (fun h => by injection h; omega)
  have hL4 := (hL2.below mov_vote hb3).grown mov_vote hg4 (by omega)
  have B := below_grown (below_and B (Nat.le_refl _) hb3) hg4 (Nat.le_refl _) (Nat.le_trans (by omega) (Nat.le_trans hC hb3.size))
  have hC := Nat.le_trans hC (Nat.le_trans hb3.size hg4.size)
  have HE := (show Hid ((stL l p bad).bind cM.rd = (stL l p1 b1).map fun t => (n, t)) from he)
  clear he hG hs3 hs4 hL2 hb3 hg4
  go_loopw [4, 6] (fun v i wr => ∃ (q pq : Nat) (bq : Bool) (ys : List PVote), q ≤ n.toNat ∧ i = .int .i64 q ∧ ys.length = q ∧ Hid ((stL l p1 b1).bind (rdN cVote q) = (stL l pq bq).map fun t => (ys, t)) ∧ pq ≤ l.length ∧ LB RVote 79 2 (w.heap.size + 1 + 1) wr v ys ∧ Row wr w.heap.size 52 [.slice ab (bc l).length cb, .int .i64 (pq : Int), .bool bq] ∧ Row wr (w.heap.size + 1) 52 [.slice none 0 0, .int .i64 0, .bool false] ∧ Below w.heap.size w wr ∧ w.heap.size + 1 + 1 ≤ wr.heap.size) (fun _ i _ => n.toNat - (intOf i).toNat)
  case atStart => exact ⟨0, p1, b1, [], by omega, rfl, rfl, many_none, hp1, hL4, hs, ho, B, hC⟩
  case round =>
  clear hs ho hL4 B hC
  obtain ⟨q, q0, bad0, ys, hqn, rfl, hyl, hrdq, hq0, hLB, hs, ho, B, hCr⟩ := hrel
  have i2 := hs.cell (j := 2) rfl
  by_cases hend : (q : Int) < n ∧ bad0 = false
  rotate_left
  · have HF := (show Hid ((stL l p bad).bind (cL cVote).rd = (stL l q0 bad0).map fun t => (ys, t)) from list_all HE.out hrdq.out (by
      by_cases h1 : (q : Int) < n
      · right; refine ⟨hqn, ?_⟩; cases bad0
        · exact absurd ⟨h1, rfl⟩ hend
        · rfl
      · left; omega))
    have hrl := hLB.rl mov_vote
    by_cases h1 : (q : Int) < n
    · obtain rfl : bad0 = true := by cases bad0 <;> simp_all
      clear hend
      go_wp2_with (first
        | (refine wl_load rfl _ _ rfl w.heap.size rfl _ _ hs _ Try.underlying52 rfl (by kernel_rfl) ?_)
        | (refine wl_store rfl _ _ _ rfl (w.heap.size + 1) [.slice ab (bc l).length cb, .int .i64 (q0 : Int), .bool true] rfl rfl _ _ ho rfl (by kernel_rfl) (one_in rfl) ?_; intro w9 hr9 hg9))
      refine bodyPost_ret (results_ct rfl _ _ (w.heap.size + 1) _ _ (0, 0) _ (by rfl) hr9.out Try.underlying52 rfl (by kernel_rfl)) rfl ?_
      exact ⟨ys, _, q0, _, rfl, hq0, below_grown B hg9 (by omega) (by omega), hrl.mv mov_vote hg9.size (Mv.from hg9 (by omega) (by omega)), HF.out⟩
    · clear hend
      go_wp2_with (first
        | (refine wl_load rfl _ _ rfl w.heap.size rfl _ _ hs _ Try.underlying52 rfl (by kernel_rfl) ?_)
        | (refine wl_store rfl _ _ _ rfl (w.heap.size + 1) [.slice ab (bc l).length cb, .int .i64 (q0 : Int), .bool bad0] rfl rfl _ _ ho rfl (by kernel_rfl) (one_in rfl) ?_; intro w9 hr9 hg9))
      refine bodyPost_ret (results_ct rfl _ _ (w.heap.size + 1) _ _ (0, 0) _ (by rfl) hr9.out Try.underlying52 rfl (by kernel_rfl)) rfl ?_
      exact ⟨ys, _, q0, _, rfl, hq0, below_grown B hg9 (by omega) (by omega), hrl.mv mov_vote hg9.size (Mv.from hg9 (by omega) (by omega)), HF.out⟩
  obtain ⟨hqn2, rfl⟩ := hend
  have hn64 : n ≤ 64 := by have := HE.out; rw [st_good hrdq.out] at this; exact cM_bd this
  obtain ⟨bad0, hbad0⟩ : ∃ b, b = false := ⟨_, rfl⟩
  obtain ⟨w5, hw5⟩ : ∃ w5, w5 = wr.alloc (.cells ([.int .i64 0, .slice none 0 0] : List Value).toArray 79) := ⟨_, rfl⟩
  have hv : Row w5 wr.heap.size 79 [.int .i64 0, .slice none 0 0] := by rw [hw5]; exact Row.new wr 79 _
  have hb5 : Below wr.heap.size wr w5 := by rw [hw5]; exact below_alloc _ _
  have hC : wr.heap.size + 1 ≤ w5.heap.size := by rw [hw5]; simp
  go_upto_region 7 with fail
  rw [← hw5]
  clear hw5 i2
  have hs := hs.below hb5
  have ho := ho.below hb5
  have B := below_and B (Nat.le_refl _) hb5
  have hT := grown_of_below hb5 (some w.heap.size)
  clear hb5
  rw [← hbad0] at hs hrdq
  clear hbad0
  have hG := getNum_any _ _ l q0 bad0 (hrd.below B) hq0 hl
  go_upto_region 8 with (first
    | (refine wl_load rfl _ _ rfl w.heap.size rfl _ _ hs _ Try.underlying52 rfl (by kernel_rfl) ?_)
    | (go_at_call 15; refine hG.mono ?_; rintro e wa0 ⟨a0, v0, q1, bad1, rfl, hq1, hb0, rfl, he0⟩; have hsa := hs.below hb0; have hva := hv.below hb0)
    | (refine wl_store rfl _ _ _ rfl w.heap.size [.slice ab (bc l).length cb, .int .i64 (q1 : Int), .bool bad1] rfl rfl _ _ hsa rfl (by kernel_rfl) (one_in rfl) ?_; intro wb0 hsb hgb0; have hvb := hva.grown hgb0 (fun h => by injection h; omega))
    | (refine wl_set rfl _ _ _ rfl (wr.heap.size) 0 _ rfl rfl _ _ hvb (show 0 < 2 by decide) (by kernel_rfl) rfl ?_; intro wc0 hvc hgc0))
  have hs := hsb.out.grown hgc0 (fun h => by injection h; omega)
  have hv : Row wc0 (wr.heap.size) 79 [.int .i64 a0, .slice none 0 0] := hvc.out
  have ho := ((ho.below hb0).grown hgb0 (fun h => by injection h; omega)).grown hgc0 (fun h => by injection h; omega)
  have he0 := (show Hid _ from he0)
  have B := below_grown (below_grown (below_and B (Nat.le_refl _) hb0) hgb0 (Nat.le_refl _) (Nat.le_trans (by omega) (Nat.le_trans hC hb0.size))) hgc0 (by omega) (Nat.le_trans (by omega) (Nat.le_trans hC (Nat.le_trans hb0.size hgb0.size)))
  have hC := Nat.le_trans hC (Nat.le_trans hb0.size (Nat.le_trans hgb0.size hgc0.size))
  have hT := grown_trans (grown_trans (grown_trans hT (grown_of_below hb0 _) (.inl rfl)) hgb0 (.inl rfl)) hgc0 (.inr fun k hk => by cases hk; exact Nat.le_refl _)
  clear hG hsa hva hsb hvb hvc hgb0 hgc0 hb0
  have hG := getText_any _ _ l q1 bad1 (hrd.below B) hq1 hl
  go_upto_region 9 with (first
    | (refine wl_load rfl _ _ rfl w.heap.size rfl _ _ hs _ Try.underlying52 rfl (by kernel_rfl) ?_)
    | (go_at_call 38; refine hG.mono ?_; rintro e wa1 ⟨a1, v1, q2, bad2, rfl, hq2, hb1, f1, he1⟩; have hsa := hs.below hb1; have hva := hv.below hb1)
    | (refine wl_store rfl _ _ _ rfl w.heap.size [.slice ab (bc l).length cb, .int .i64 (q2 : Int), .bool bad2] rfl rfl _ _ hsa rfl (by kernel_rfl) (one_in rfl) ?_; intro wb1 hsb hgb1; have hvb := hva.grown hgb1 (fun h => by injection h; omega))
    | (refine wl_set rfl _ _ _ rfl (wr.heap.size) 1 _ rfl rfl _ _ hvb (show 1 < 2 by decide) (by kernel_rfl) f1.one ?_; intro wc1 hvc hgc1))
  have hs := hsb.out.grown hgc1 (fun h => by injection h; omega)
  have hv : Row wc1 (wr.heap.size) 79 [.int .i64 a0, v1] := hvc.out
  have ho := ((ho.below hb1).grown hgb1 (fun h => by injection h; omega)).grown hgc1 (fun h => by injection h; omega)
  have he1 := (show Hid _ from he1)
  have f1 := ((f1.mv (Mv.weak (L := wr.heap.size + 1) hC)).mv (Mv.from hgb1 (by omega) (Nat.le_refl _))).mv (Mv.from hgc1 (by omega) (Nat.le_refl _))
  have B := below_grown (below_grown (below_and B (Nat.le_refl _) hb1) hgb1 (Nat.le_refl _) (Nat.le_trans (by omega) (Nat.le_trans hC hb1.size))) hgc1 (by omega) (Nat.le_trans (by omega) (Nat.le_trans hC (Nat.le_trans hb1.size hgb1.size)))
  have hC := Nat.le_trans hC (Nat.le_trans hb1.size (Nat.le_trans hgb1.size hgc1.size))
  have hT := grown_trans (grown_trans (grown_trans hT (grown_of_below hb1 _) (.inl rfl)) hgb1 (.inl rfl)) hgc1 (.inr fun k hk => by cases hk; exact Nat.le_refl _)
  clear hG hsa hva hsb hvb hvc hgb1 hgc1 hb1
  have hLB1 := hLB.grown mov_vote hT (by omega)
  have hRc : RVote (From wr.heap.size) wc1 [.int .i64 a0, v1] (a0, a1) := ⟨_, rfl, f1.mv (Mv.weak (by omega))⟩
  have hc1 := one_RVote hRc
  have HR3 := (show Hid ((stL l p1 b1).bind (rdN cVote (q + 1)) = (stL l q2 bad2).map fun t => (ys ++ [(a0, a1)], t)) from many_step hrdq.out (pair_read he0.out he1.out))
  have hBs : w.heap.size + 1 + 1 ≤ wr.heap.size := hCr
  have hlt := hLB.lt
  have hfr := hLB.fr
  go_wp2_with (first
    | (refine wl_load rfl _ _ rfl wr.heap.size rfl _ _ hv _ Try.underlying79 rfl (by kernel_rfl) ?_)
    | (at_builtin; refine wl_push mov_vote rfl _ _ _ rfl 79 2 32 _ Try.underlying28 Try.inf_votes rfl (by decide) (w.heap.size + 1 + 1) u4 ys rfl hLB1 [.int .i64 a0, v1] (a0, a1) wr.heap.size hRc rfl hc1 hBs hlt rfl (by omega) (by omega) (by decide) ?_; intro v4 w4 hLB4 hg4))
  have hs := hs.grown hg4 (fun h => by have := hfr _ h; omega)
  have ho := ho.grown hg4 (fun h => by have := hfr _ h; omega)
  have B4 : Below w.heap.size w w4 := B.trans (grown_below hg4 (Nat.le_trans (by omega) hC) (fun k hk => by have := hfr k hk; omega))
  have hC4 := Nat.le_trans hC hg4.size
  go_roundw
  case rel => exact ⟨q + 1, q2, bad2, ys ++ [(a0, a1)], by omega, by go_num, by simp [hyl], HR3, hq2, hLB4, hs, ho, B4, by omega⟩
  case measure => simp [intOf]; omega
end Go.Proofs.Ytjoikkhmijalmaa
