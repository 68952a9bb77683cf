/- catenarylaw18.ChooseRights: its walk. Written by mk20u.py. -/
import Derived.Test.YtgbfmccecnfooaaGreatDoorCRBW
import Derived.Test.YtgbfmccecnfooaaGreatDoorCRBX
import Derived.Test.YtgbfmccecnfooaaGreatDoorCRBH
import Derived.Test.YtgbfmccecnfooaaGreatDoorCRBB
set_option linter.unusedSimpArgs false
set_option linter.unusedVariables false
namespace Go.Proofs.YtgbfmccecnfooaaGreatDoor
open Go.RowKit Oct Bal
set_option maxRecDepth 10000 in
set_option maxHeartbeats 8000000 in
theorem rightsL_any (W : World) (r : List Value) (x : PRep) (n : Int) (h : RRep Any W r x) (hz : szR x) (hq : okQ x) (hbx : bR x ≤ 1050000) (hT : Tab W) :
    Calls Tryz.prog 3 #[.agg r.toArray, .int .i64 n] W fun e w' => e = .returned (.bool true) ∧ Below W.heap.size W w' := by
  have hall := h
  obtain ⟨rd, rs, rp, rg, rfl, t1, t2, t3, t4⟩ := h
  obtain ⟨w0, hw0⟩ : ∃ u, u = W.alloc (.cells #[.int .i64 x.1.1, .int .i64 x.1.2, .int .i64 x.2.1, .int .i64 x.2.2.1, rd, rs, rp, rg] 28) := ⟨_, rfl⟩
  have r0 : Row w0 W.heap.size 28 [.int .i64 x.1.1, .int .i64 x.1.2, .int .i64 x.2.1, .int .i64 x.2.2.1, rd, rs, rp, rg] := by rw [hw0]; exact Row.new _ _ _
  have B0 : Below W.heap.size W w0 := by rw [hw0]; exact below_alloc _ _
  go_enter Tryz.func3, Tryz.ntmps3
  go_upto_region 1 with fail
  rw [← hw0]
  clear hw0
  go_upto_region 3 with (go_at_call 6; refine (chooseAlive_any w0).mono ?_; rintro e w1 ⟨rfl, b1⟩)
  have B1 := below_and B0 (Nat.le_refl _) b1
  have r1 := r0.below b1
  have hcp := copyReport_any w1 [.int .i64 x.1.1, .int .i64 x.1.2, .int .i64 x.2.1, .int .i64 x.2.2.1, rd, rs, rp, rg] x (mov_rep _ _ _ _ _ _ hall B1.size (Mv.below B1)) hz
  go_upto_region 4 with (first
    | (refine wl_load rfl _ _ rfl W.heap.size rfl _ _ r1 _ Tryz.underlying28 rfl (by kernel_rfl) ?_)
    | (go_at_call 7; refine hcp.mono ?_; rintro e w2 ⟨r2, rfl, hr2, b2⟩; have hone := one_RRep hr2; obtain ⟨od, os, op, og, rfl, f1, f2, f3, f4⟩ := hr2; have hrow0 := Row.new w2 28 [.int .i64 0, .int .i64 0, .int .i64 0, .int .i64 0, .slice none 0 0, .slice none 0 0, .slice none 0 0, .slice none 0 0])
    | (refine wl_store rfl _ _ _ rfl w2.heap.size [.int .i64 x.1.1, .int .i64 x.1.2, .int .i64 x.2.1, .int .i64 x.2.2.1, od, os, op, og] rfl rfl _ _ hrow0 rfl (by kernel_rfl) hone ?_; intro w3 rO g3))
  have b3 : Below w2.heap.size w2 w3 := (below_alloc w2 (.cells ([.int .i64 0, .int .i64 0, .int .i64 0, .int .i64 0, .slice none 0 0, .slice none 0 0, .slice none 0 0, .slice none 0 0] : List Value).toArray 28)).trans (grown_below g3 (by simp) (fun k hk => by cases hk; exact Nat.le_refl _))
  have rO := rO.out
  have B13 := below_and b2 (Nat.le_refl _) b3
  have BW := below_and B1 (Nat.le_refl _) B13
  have r3 := r1.below B13
  obtain ⟨cO, hcO⟩ : ∃ c, c = w2.heap.size := ⟨_, rfl⟩
  rw [← hcO] at rO ⊢
  have hO := (mov_rep _ _ _ _ _ _ (⟨_, _, _, _, rfl, f1, f2, f3, f4⟩ : RRep (From w1.heap.size) w2 [.int .i64 x.1.1, .int .i64 x.1.2, .int .i64 x.2.1, .int .i64 x.2.2.1, od, os, op, og] x) (Nat.le_refl _) Mv.any)
  have HC := (show Hid (∀ u, Below w3.heap.size w3 u → Row u cO 28 [.int .i64 x.1.1, .int .i64 x.1.2, .int .i64 x.2.1, .int .i64 x.2.2.1, od, os, op, og] ∧ Row u W.heap.size 28 [.int .i64 x.1.1, .int .i64 x.1.2, .int .i64 x.2.1, .int .i64 x.2.2.1, rd, rs, rp, rg]) from fun u hu => ⟨rO.below hu, r3.below hu⟩)
  have HRO := (show Hid (∀ u, Below w3.heap.size w3 u → RRep Any u [.int .i64 x.1.1, .int .i64 x.1.2, .int .i64 x.2.1, .int .i64 x.2.2.1, od, os, op, og] x) from fun u hu => mov_rep _ _ _ _ _ _ hO (below_and b3 (Nat.le_refl _) hu).size (Mv.below (below_and b3 (Nat.le_refl _) hu)))
  have HRX := (show Hid (∀ u, Below w3.heap.size w3 u → RRep Any u [.int .i64 x.1.1, .int .i64 x.1.2, .int .i64 x.2.1, .int .i64 x.2.2.1, rd, rs, rp, rg] x) from fun u hu => mov_rep _ _ _ _ _ _ hall (below_and BW (Nat.le_refl _) hu).size (Mv.below (below_and BW (Nat.le_refl _) hu)))
  have HR1 := (show Hid (∀ u, Below w3.heap.size w3 u → Calls Tryz.prog 8 #[.agg #[.int .i64 x.1.1, .int .i64 x.1.2, .int .i64 x.2.1, .int .i64 x.2.2.1, od, os, op, og], .int .i64 n] u fun e w' => e = .returned (.bool (rgtR n x)) ∧ Below u.heap.size u w') from fun u hu => rightC_any u _ x n (HRO.out u hu) hq (hT.below (below_and BW (Nat.le_refl _) hu)))
  have HR2 := (show Hid (∀ u, Below w3.heap.size w3 u → Calls Tryz.prog 9 #[.agg #[.int .i64 x.1.1, .int .i64 x.1.2, .int .i64 x.2.1, .int .i64 x.2.2.1, rd, rs, rp, rg], .int .i64 n] u fun e w' => e = .returned (.bool (rgtR n x)) ∧ Below u.heap.size u w') from fun u hu => refRightR_any u _ x n (HRX.out u hu) hq hbx)
  have HSR := (show Hid (∀ u, Below w3.heap.size w3 u → Calls Tryz.prog 10 #[.agg #[.int .i64 x.1.1, .int .i64 x.1.2, .int .i64 x.2.1, .int .i64 x.2.2.1, od, os, op, og], .agg #[.int .i64 x.1.1, .int .i64 x.1.2, .int .i64 x.2.1, .int .i64 x.2.2.1, rd, rs, rp, rg]] u fun e w' => e = .returned (.bool true) ∧ Below u.heap.size u w') from fun u hu => sameReport_eq u _ _ x (HRO.out u hu) (HRX.out u hu))
  have B0 : Below w3.heap.size w3 w3.drew := ⟨rfl, rfl, rfl, Nat.le_refl _, fun _ _ => rfl⟩
  clear hrow0 g3 hcO hone f1 f2 f3 f4 hO t1 t2 t3 t4 hall hz hq hbx hT B13 b1 b2 b3 rO r3 r1 r0 hcp
  generalize rgtR n x = rr at *
  try go_simp
  refine wp_region_held_drew (S := fun u => Below w3.heap.size w3 u) (by kernel_rfl) B0 (fun hHeld => ?_)
  clear hHeld
  refine wpAnyH_take (i := 0) (v := .agg #[.int .i64 x.1.1, .int .i64 x.1.2, .int .i64 x.2.1, .int .i64 x.2.2.1, od, os, op, og]) rfl (by kernel_rfl) (by kernel_rfl) (by kernel_rfl) (fun _ _ _ h => h) (yieldsIf_load_mid (by kernel_rfl) _ _ rfl cO 0 (by go_simp) [.int .i64 x.1.1, .int .i64 x.1.2, .int .i64 x.2.1, .int .i64 x.2.2.1, od, os, op, og] _ (fun u hSu => ((HC.out u hSu).1).mid 0 rfl) Tryz.underlying28 rfl (by kernel_rfl)) B0 ?_
  simp only [Act.put, List.setIfInBounds_toArray, List.set_cons_zero, List.set_cons_succ]
  refine wpAnyH_take (i := 1) (v := .int .i64 n) rfl (by kernel_rfl) (by kernel_rfl) (by kernel_rfl) (fun _ _ _ h => h) (Or.inl ⟨by kernel_rfl, fun u hSu => by go_simp⟩) B0 ?_
  simp only [Act.put, List.setIfInBounds_toArray, List.set_cons_zero, List.set_cons_succ]
  refine wpAnyH_take (i := 3) (v := .agg #[.int .i64 x.1.1, .int .i64 x.1.2, .int .i64 x.2.1, .int .i64 x.2.2.1, rd, rs, rp, rg]) rfl (by kernel_rfl) (by kernel_rfl) (by kernel_rfl) (fun _ _ _ h => h) (yieldsIf_load_mid (by kernel_rfl) _ _ rfl W.heap.size 0 (by go_simp) [.int .i64 x.1.1, .int .i64 x.1.2, .int .i64 x.2.1, .int .i64 x.2.2.1, rd, rs, rp, rg] _ (fun u hSu => ((HC.out u hSu).2).mid 0 rfl) Tryz.underlying28 rfl (by kernel_rfl)) B0 ?_
  simp only [Act.put, List.setIfInBounds_toArray, List.set_cons_zero, List.set_cons_succ]
  refine wpAnyH_take (i := 4) (v := .int .i64 n) rfl (by kernel_rfl) (by kernel_rfl) (by kernel_rfl) (fun _ _ _ h => h) (Or.inl ⟨by kernel_rfl, fun u hSu => by go_simp⟩) B0 ?_
  simp only [Act.put, List.setIfInBounds_toArray, List.set_cons_zero, List.set_cons_succ]
  refine wpAnyH_ready (rs := [2]) (by kernel_rfl) (by simp) ?_
  refine AllReadyH.cons (o := _) rfl (fun K hK => ?_) AllReadyH.nil
  go_simp
  refine (HR1.out _ B0).mono ?_
  rintro e wa ⟨rfl, ba⟩
  have Ba := below_and B0 (Nat.le_refl _) ba
  try go_simp
  refine hK.out _ _ Ba (fun hHeld => ?_)
  clear hK K hHeld
  refine wpAnyH_ready (rs := [5]) (by kernel_rfl) (by simp) ?_
  refine AllReadyH.cons (o := _) rfl (fun K hK => ?_) AllReadyH.nil
  go_simp
  refine (HR2.out _ Ba).mono ?_
  rintro e wb ⟨rfl, bb⟩
  have Bb := below_and Ba (Nat.le_refl _) bb
  try go_simp
  refine hK.out _ _ Bb (fun hHeld => ?_)
  clear hK K hHeld
  refine wpAnyH_take (i := 6) (v := .bool true) rfl (by kernel_rfl) (by kernel_rfl) (by kernel_rfl) (fun _ _ _ h => h) (Or.inl ⟨by kernel_rfl, fun u hSu => by go_simp⟩) Bb ?_
  simp only [Act.put, List.setIfInBounds_toArray, List.set_cons_zero, List.set_cons_succ]
  refine wpAnyH_take (i := 7) (v := .bool true) rfl (by kernel_rfl) (by kernel_rfl) (by kernel_rfl) (fun _ _ _ h => h) (Or.inl ⟨by kernel_rfl, fun u hSu => by go_simp⟩) Bb ?_
  simp only [Act.put, List.setIfInBounds_toArray, List.set_cons_zero, List.set_cons_succ]
  refine wpAnyH_take (i := 8) (v := .agg #[.int .i64 x.1.1, .int .i64 x.1.2, .int .i64 x.2.1, .int .i64 x.2.2.1, od, os, op, og]) rfl (by kernel_rfl) (by kernel_rfl) (by kernel_rfl) (fun _ _ _ h => h) (yieldsIf_load_mid (by kernel_rfl) _ _ rfl cO 0 (by go_simp) [.int .i64 x.1.1, .int .i64 x.1.2, .int .i64 x.2.1, .int .i64 x.2.2.1, od, os, op, og] _ (fun u hSu => ((HC.out u hSu).1).mid 0 rfl) Tryz.underlying28 rfl (by kernel_rfl)) Bb ?_
  simp only [Act.put, List.setIfInBounds_toArray, List.set_cons_zero, List.set_cons_succ]
  refine wpAnyH_take (i := 9) (v := .agg #[.int .i64 x.1.1, .int .i64 x.1.2, .int .i64 x.2.1, .int .i64 x.2.2.1, rd, rs, rp, rg]) rfl (by kernel_rfl) (by kernel_rfl) (by kernel_rfl) (fun _ _ _ h => h) (yieldsIf_load_mid (by kernel_rfl) _ _ rfl W.heap.size 0 (by go_simp) [.int .i64 x.1.1, .int .i64 x.1.2, .int .i64 x.2.1, .int .i64 x.2.2.1, rd, rs, rp, rg] _ (fun u hSu => ((HC.out u hSu).2).mid 0 rfl) Tryz.underlying28 rfl (by kernel_rfl)) Bb ?_
  simp only [Act.put, List.setIfInBounds_toArray, List.set_cons_zero, List.set_cons_succ]
  refine wpAnyH_ready (rs := [10]) (by kernel_rfl) (by simp) ?_
  refine AllReadyH.cons (o := _) rfl (fun K hK => ?_) AllReadyH.nil
  go_simp
  refine (HSR.out _ Bb).mono ?_
  rintro e wc ⟨rfl, bc⟩
  have Bc := below_and Bb (Nat.le_refl _) bc
  try go_simp
  refine hK.out _ _ Bc (fun hHeld => ?_)
  clear hK K hHeld
  refine wpAnyH_take (i := 11) (v := .bool true) rfl (by kernel_rfl) (by kernel_rfl) (by kernel_rfl) (fun _ _ _ h => h) (Or.inl ⟨by kernel_rfl, fun u hSu => by go_simp⟩) Bc ?_
  simp only [Act.put, List.setIfInBounds_toArray, List.set_cons_zero, List.set_cons_succ]
  refine wpAnyH_ready (rs := [12]) (by kernel_rfl) (by simp) ?_
  refine AllReadyH.cons (o := _) rfl (fun K hK => ?_) AllReadyH.nil
  go_simp
  refine hK.out _ _ Bc (fun hHeld => ?_)
  clear hK K hHeld
  refine wpAnyH_done (by kernel_rfl) ?_ _
  go_wp2_with fail
  go_ret
  exact ⟨rfl, below_and BW (Nat.le_refl _) Bc⟩
end Go.Proofs.YtgbfmccecnfooaaGreatDoor
