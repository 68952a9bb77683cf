/- The walks over package msg: a field read into a message. (Laid by mk5d.py.) -/
import Derived.Test.YtgjepofinpmcpaaGreatDoorSBC
import Derived.Test.YtgjepofinpmcpaaGreatDoorSAO
set_option linter.unusedSimpArgs false
set_option linter.unusedVariables false
namespace Go.Proofs.YtgjepofinpmcpaaGreatDoor
section
open Go.RowKit Oct
set_option maxHeartbeats 2000000 in
/-- report. -/
theorem rreport_any (L : Nat) (w : World) (r : Nat) (bv : Value) (l : List Int) (p : Nat) (hS : RS L w r bv l p) :
    Calls Tryz.prog 74 #[.pointer (some ⟨r, 0, none⟩)] w (RPost cRep (VA RRep) L w r bv l p) := by
  obtain ⟨w0, hw0⟩ : ∃ w0, w0 = (w.alloc (.cells ([.int .i64 0, .int .i64 0, .int .i64 0, .int .i64 0, .slice none 0 0, .slice none 0 0, .slice none 0 0, .slice none 0 0] : List Value).toArray 68)).alloc (.cells ([.int .i64 0, .int .i64 0, .int .i64 0, .int .i64 0, .slice none 0 0, .slice none 0 0, .slice none 0 0, .slice none 0 0] : List Value).toArray 68) := ⟨_, rfl⟩
  have hr : Row w0 w.heap.size 68 [.int .i64 0, .int .i64 0, .int .i64 0, .int .i64 0, .slice none 0 0, .slice none 0 0, .slice none 0 0, .slice none 0 0] := by rw [hw0]; exact row_alloc (Row.new w 68 [.int .i64 0, .int .i64 0, .int .i64 0, .int .i64 0, .slice none 0 0, .slice none 0 0, .slice none 0 0, .slice none 0 0]) _
  have hv : Row w0 (w.heap.size + 1) 68 [.int .i64 0, .int .i64 0, .int .i64 0, .int .i64 0, .slice none 0 0, .slice none 0 0, .slice none 0 0, .slice none 0 0] := by
    rw [hw0]
    have := Row.new (w.alloc (.cells ([.int .i64 0, .int .i64 0, .int .i64 0, .int .i64 0, .slice none 0 0, .slice none 0 0, .slice none 0 0, .slice none 0 0] : List Value).toArray 68)) 68 [.int .i64 0, .int .i64 0, .int .i64 0, .int .i64 0, .slice none 0 0, .slice none 0 0, .slice none 0 0, .slice none 0 0]
    simpa using this
  have hB : Below w.heap.size w w0 := by rw [hw0]; exact ((Below.refl _ w).alloc (Nat.le_refl _) _).alloc (by simp) _
  have hsz : w0.heap.size = w.heap.size + 2 := by rw [hw0]; simp
  have hG := grown_of_below hB (some r)
  have hS := hS.below hB
  have hLw := hS.hL
  have hrL := hS.hr
  have hLw0 : L ≤ w.heap.size := by have := ‹RS L w r bv l p›.hL; exact this
  have hne1 : (some r : Option Nat) ≠ some w.heap.size := fun e => by injection e with e; omega
  have hne2 : (some r : Option Nat) ≠ some (w.heap.size + 1) := fun e => by injection e with e; omega
  have hne3 : (some (w.heap.size + 1) : Option Nat) ≠ some w.heap.size := fun e => by injection e with e; omega
  have hC : w.heap.size + 2 ≤ w0.heap.size := by omega
  go_enter Tryz.func74, Tryz.ntmps74
  go_upto_region 2 with fail
  rw [← hw0]
  clear hw0 hsz
  have hv2 := hv
  go_wp2_with fail
  refine (rballot_any L _ r bv l _ hS).mono ?_
  rintro e wa0 ⟨hga0, ⟨hn, rfl⟩ | ⟨v0, a0, p0, hrd0, rfl, hR0, hS⟩⟩
  · go_wp2_with fail
    exact ⟨rfl, RPost.no (grown_trans hG hga0 (.inl rfl)) (by simp [cRep, cP, hn])⟩
  have hG := grown_trans hG hga0 (.inl rfl)
  have hr := hr.grown hga0 hne1
  have hv2 := hv2.grown hga0 hne2
  have hC0 := hC
  have hC := Nat.le_trans hC hga0.size
  have hrd0 := (show Hid _ from hrd0)
  obtain ⟨cs, rfl, hcs⟩ := hR0
  have hcs : cs = [.int .i64 a0.1, .int .i64 a0.2] := hcs
  subst hcs
  go_wp2_with (refine wl_put rfl _ _ _ rfl (w.heap.size + 1) 0 [.int .i64 a0.1, .int .i64 a0.2] rfl rfl _ _ hv2 (show 2 ≤ 8 by decide) (by kernel_rfl) one_bal ?_; intro wb0 hv3 hgb0)
  have hv2 : Row wb0 (w.heap.size + 1) 68 [.int .i64 a0.1, .int .i64 a0.2, .int .i64 0, .int .i64 0, .slice none 0 0, .slice none 0 0, .slice none 0 0, .slice none 0 0] := hv3.out
  clear hv3
  have hG := grown_trans hG hgb0 (.inr fun k hk => by cases hk; omega)
  have hS := hS.grown hgb0 (by omega)
  have hC := Nat.le_trans hC hgb0.size
  have hr := hr.grown hgb0 hne3
  refine (rnum_any L _ r bv l _ hS).mono ?_
  rintro e wa1 ⟨hga1, ⟨hn, rfl⟩ | ⟨v1, a1, p1, hrd1, rfl, hR1, hS⟩⟩
  · go_wp2_with fail
    exact ⟨rfl, RPost.no (grown_trans hG hga1 (.inl rfl)) (by simp [cRep, cP, hrd0.out, hn])⟩
  have hG := grown_trans hG hga1 (.inl rfl)
  have hr := hr.grown hga1 hne1
  have hv2 := hv2.grown hga1 hne2
  have hC1 := hC
  have hC := Nat.le_trans hC hga1.size
  have hrd1 := (show Hid _ from hrd1)
  have hR1 : v1 = .int .i64 a1 := hR1
  subst hR1
  go_wp2_with (refine wl_set rfl _ _ _ rfl (w.heap.size + 1) 2 _ rfl rfl _ _ hv2 (show 2 < 8 by decide) (by kernel_rfl) rfl ?_; intro wb1 hv3 hgb1)
  have hv2 : Row wb1 (w.heap.size + 1) 68 [.int .i64 a0.1, .int .i64 a0.2, .int .i64 a1, .int .i64 0, .slice none 0 0, .slice none 0 0, .slice none 0 0, .slice none 0 0] := hv3.out
  clear hv3
  have hG := grown_trans hG hgb1 (.inr fun k hk => by cases hk; omega)
  have hS := hS.grown hgb1 (by omega)
  have hC := Nat.le_trans hC hgb1.size
  have hr := hr.grown hgb1 hne3
  refine (rnum_any L _ r bv l _ hS).mono ?_
  rintro e wa2 ⟨hga2, ⟨hn, rfl⟩ | ⟨v2, a2, p2, hrd2, rfl, hR2, hS⟩⟩
  · go_wp2_with fail
    exact ⟨rfl, RPost.no (grown_trans hG hga2 (.inl rfl)) (by simp [cRep, cP, hrd0.out, hrd1.out, hn])⟩
  have hG := grown_trans hG hga2 (.inl rfl)
  have hr := hr.grown hga2 hne1
  have hv2 := hv2.grown hga2 hne2
  have hC2 := hC
  have hC := Nat.le_trans hC hga2.size
  have hrd2 := (show Hid _ from hrd2)
  have hR2 : v2 = .int .i64 a2 := hR2
  subst hR2
  go_wp2_with (refine wl_set rfl _ _ _ rfl (w.heap.size + 1) 3 _ rfl rfl _ _ hv2 (show 3 < 8 by decide) (by kernel_rfl) rfl ?_; intro wb2 hv3 hgb2)
  have hv2 : Row wb2 (w.heap.size + 1) 68 [.int .i64 a0.1, .int .i64 a0.2, .int .i64 a1, .int .i64 a2, .slice none 0 0, .slice none 0 0, .slice none 0 0, .slice none 0 0] := hv3.out
  clear hv3
  have hG := grown_trans hG hgb2 (.inr fun k hk => by cases hk; omega)
  have hS := hS.grown hgb2 (by omega)
  have hC := Nat.le_trans hC hgb2.size
  have hr := hr.grown hgb2 hne3
  refine (rtext_any L _ r bv l _ hS).mono ?_
  rintro e wa3 ⟨hga3, ⟨hn, rfl⟩ | ⟨v3, a3, p3, hrd3, rfl, hR3, hS⟩⟩
  · go_wp2_with fail
    exact ⟨rfl, RPost.no (grown_trans hG hga3 (.inl rfl)) (by simp [cRep, cP, hrd0.out, hrd1.out, hrd2.out, hn])⟩
  have hG := grown_trans hG hga3 (.inl rfl)
  have hr := hr.grown hga3 hne1
  have hv2 := hv2.grown hga3 hne2
  have hC3 := hC
  have hC := Nat.le_trans hC hga3.size
  have hrd3 := (show Hid _ from hrd3)
  have f3 := hR3.mv (Mv.weak (L := w.heap.size + 2) hC3)
  go_wp2_with (refine wl_set rfl _ _ _ rfl (w.heap.size + 1) 4 _ rfl rfl _ _ hv2 (show 4 < 8 by decide) (by kernel_rfl) f3.one ?_; intro wb3 hv3 hgb3)
  have hv2 : Row wb3 (w.heap.size + 1) 68 [.int .i64 a0.1, .int .i64 a0.2, .int .i64 a1, .int .i64 a2, v3, .slice none 0 0, .slice none 0 0, .slice none 0 0] := hv3.out
  clear hv3
  have hG := grown_trans hG hgb3 (.inr fun k hk => by cases hk; omega)
  have hS := hS.grown hgb3 (by omega)
  have hC := Nat.le_trans hC hgb3.size
  have hr := hr.grown hgb3 hne3
  have f3 := f3.mv (Mv.from (L := w.heap.size + 2) hgb3 (by omega) (Nat.le_refl _))
  refine (rvotes_any L _ r bv l _ hS).mono ?_
  rintro e wa4 ⟨hga4, ⟨hn, rfl⟩ | ⟨v4, a4, p4, hrd4, rfl, hR4, hS⟩⟩
  · go_wp2_with fail
    exact ⟨rfl, RPost.no (grown_trans hG hga4 (.inl rfl)) (by simp [cRep, cP, hrd0.out, hrd1.out, hrd2.out, hrd3.out, hn])⟩
  have hG := grown_trans hG hga4 (.inl rfl)
  have hr := hr.grown hga4 hne1
  have hv2 := hv2.grown hga4 hne2
  have hC4 := hC
  have hC := Nat.le_trans hC hga4.size
  have f3 := f3.mv (Mv.from (L := w.heap.size + 2) hga4 (by omega) (Nat.le_refl _))
  have hrd4 := (show Hid _ from hrd4)
  have f4 := hR4.mv mov_vote (Nat.le_refl _) (Mv.weak (L := w.heap.size + 2) hC4)
  go_wp2_with (refine wl_set rfl _ _ _ rfl (w.heap.size + 1) 5 _ rfl rfl _ _ hv2 (show 5 < 8 by decide) (by kernel_rfl) f4.one ?_; intro wb4 hv3 hgb4)
  have hv2 : Row wb4 (w.heap.size + 1) 68 [.int .i64 a0.1, .int .i64 a0.2, .int .i64 a1, .int .i64 a2, v3, v4, .slice none 0 0, .slice none 0 0] := hv3.out
  clear hv3
  have hG := grown_trans hG hgb4 (.inr fun k hk => by cases hk; omega)
  have hS := hS.grown hgb4 (by omega)
  have hC := Nat.le_trans hC hgb4.size
  have hr := hr.grown hgb4 hne3
  have f3 := f3.mv (Mv.from (L := w.heap.size + 2) hgb4 (by omega) (Nat.le_refl _))
  have f4 := f4.mv mov_vote hgb4.size (Mv.from (L := w.heap.size + 2) hgb4 (by omega) (Nat.le_refl _))
  refine (rpreps_any L _ r bv l _ hS).mono ?_
  rintro e wa5 ⟨hga5, ⟨hn, rfl⟩ | ⟨v5, a5, p5, hrd5, rfl, hR5, hS⟩⟩
  · go_wp2_with fail
    exact ⟨rfl, RPost.no (grown_trans hG hga5 (.inl rfl)) (by simp [cRep, cP, hrd0.out, hrd1.out, hrd2.out, hrd3.out, hrd4.out, hn])⟩
  have hG := grown_trans hG hga5 (.inl rfl)
  have hr := hr.grown hga5 hne1
  have hv2 := hv2.grown hga5 hne2
  have hC5 := hC
  have hC := Nat.le_trans hC hga5.size
  have f3 := f3.mv (Mv.from (L := w.heap.size + 2) hga5 (by omega) (Nat.le_refl _))
  have f4 := f4.mv mov_vote hga5.size (Mv.from (L := w.heap.size + 2) hga5 (by omega) (Nat.le_refl _))
  have hrd5 := (show Hid _ from hrd5)
  have f5 := hR5.mv mov_prep (Nat.le_refl _) (Mv.weak (L := w.heap.size + 2) hC5)
  go_wp2_with (refine wl_set rfl _ _ _ rfl (w.heap.size + 1) 6 _ rfl rfl _ _ hv2 (show 6 < 8 by decide) (by kernel_rfl) f5.one ?_; intro wb5 hv3 hgb5)
  have hv2 : Row wb5 (w.heap.size + 1) 68 [.int .i64 a0.1, .int .i64 a0.2, .int .i64 a1, .int .i64 a2, v3, v4, v5, .slice none 0 0] := hv3.out
  clear hv3
  have hG := grown_trans hG hgb5 (.inr fun k hk => by cases hk; omega)
  have hS := hS.grown hgb5 (by omega)
  have hC := Nat.le_trans hC hgb5.size
  have hr := hr.grown hgb5 hne3
  have f3 := f3.mv (Mv.from (L := w.heap.size + 2) hgb5 (by omega) (Nat.le_refl _))
  have f4 := f4.mv mov_vote hgb5.size (Mv.from (L := w.heap.size + 2) hgb5 (by omega) (Nat.le_refl _))
  have f5 := f5.mv mov_prep hgb5.size (Mv.from (L := w.heap.size + 2) hgb5 (by omega) (Nat.le_refl _))
  refine (rtext_any L _ r bv l _ hS).mono ?_
  rintro e wa6 ⟨hga6, ⟨hn, rfl⟩ | ⟨v6, a6, p6, hrd6, rfl, hR6, hS⟩⟩
  · go_wp2_with fail
    exact ⟨rfl, RPost.no (grown_trans hG hga6 (.inl rfl)) (by simp [cRep, cP, hrd0.out, hrd1.out, hrd2.out, hrd3.out, hrd4.out, hrd5.out, hn])⟩
  have hG := grown_trans hG hga6 (.inl rfl)
  have hr := hr.grown hga6 hne1
  have hv2 := hv2.grown hga6 hne2
  have hC6 := hC
  have hC := Nat.le_trans hC hga6.size
  have f3 := f3.mv (Mv.from (L := w.heap.size + 2) hga6 (by omega) (Nat.le_refl _))
  have f4 := f4.mv mov_vote hga6.size (Mv.from (L := w.heap.size + 2) hga6 (by omega) (Nat.le_refl _))
  have f5 := f5.mv mov_prep hga6.size (Mv.from (L := w.heap.size + 2) hga6 (by omega) (Nat.le_refl _))
  have hrd6 := (show Hid _ from hrd6)
  have f6 := hR6.mv (Mv.weak (L := w.heap.size + 2) hC6)
  go_wp2_with (first
    | (refine wl_set rfl _ _ _ rfl (w.heap.size + 1) 7 _ rfl rfl _ _ hv2 (show 7 < 8 by decide) (by kernel_rfl) f6.one ?_; intro wb6 hv3 hgb6)
    | (refine wl_load rfl _ _ rfl (w.heap.size + 1) rfl _ _ hv3.out _ Tryz.underlying68 rfl (by kernel_rfl) ?_; have hr := hr.grown hgb6 hne3)
    | (refine wl_store rfl _ _ _ rfl w.heap.size [.int .i64 a0.1, .int .i64 a0.2, .int .i64 a1, .int .i64 a2, v3, v4, v5, v6] rfl rfl _ _ hr (by rfl) (by kernel_rfl) (by intro u hu; simp only [List.mem_cons, List.not_mem_nil, or_false] at hu; rcases hu with rfl | rfl | rfl | rfl | rfl | rfl | rfl | rfl <;> first | rfl | exact f3.one | exact f4.one | exact f5.one | exact f6.one) ?_; intro wz hrz hgz))
  have hv2 : Row wb6 (w.heap.size + 1) 68 [.int .i64 a0.1, .int .i64 a0.2, .int .i64 a1, .int .i64 a2, v3, v4, v5, v6] := hv3.out
  clear hv3
  have hG := grown_trans hG hgb6 (.inr fun k hk => by cases hk; omega)
  have hS := hS.grown hgb6 (by omega)
  have hC := Nat.le_trans hC hgb6.size
  have f3 := f3.mv (Mv.from (L := w.heap.size + 2) hgb6 (by omega) (Nat.le_refl _))
  have f4 := f4.mv mov_vote hgb6.size (Mv.from (L := w.heap.size + 2) hgb6 (by omega) (Nat.le_refl _))
  have f5 := f5.mv mov_prep hgb6.size (Mv.from (L := w.heap.size + 2) hgb6 (by omega) (Nat.le_refl _))
  have f6 := f6.mv (Mv.from (L := w.heap.size + 2) hgb6 (by omega) (Nat.le_refl _))
  have hG := grown_trans hG hgz (.inr fun k hk => by cases hk; omega)
  have hS := hS.grown hgz (by omega)
  have f3 := f3.mv (Mv.from (L := w.heap.size + 2) hgz (by omega) (Nat.le_refl _))
  have f4 := f4.mv mov_vote hgz.size (Mv.from (L := w.heap.size + 2) hgz (by omega) (Nat.le_refl _))
  have f5 := f5.mv mov_prep hgz.size (Mv.from (L := w.heap.size + 2) hgz (by omega) (Nat.le_refl _))
  have f6 := f6.mv (Mv.from (L := w.heap.size + 2) hgz (by omega) (Nat.le_refl _))
  have f3 := f3.mv (Mv.weak (L := w.heap.size) (by omega))
  have f4 := f4.mv mov_vote (Nat.le_refl _) (Mv.weak (L := w.heap.size) (by omega))
  have f5 := f5.mv mov_prep (Nat.le_refl _) (Mv.weak (L := w.heap.size) (by omega))
  have f6 := f6.mv (Mv.weak (L := w.heap.size) (by omega))
  have hrz := hrz.out
  refine bodyPost_ret (v := .agg ([.int .i64 a0.1, .int .i64 a0.2, .int .i64 a1, .int .i64 a2, v3, v4, v5, v6] : List Value).toArray) (results_cell_row rfl _ _ w.heap.size _ _ (0, 0) _ (by rfl) hrz Tryz.underlying68 rfl (by kernel_rfl)) rfl ?_
  exact ⟨hG, .inr ⟨_, (a0, a1, a2, a3, a4, a5, a6), p6, by simp [cRep, cP, hrd0.out, hrd1.out, hrd2.out, hrd3.out, hrd4.out, hrd5.out, hrd6.out], rfl, ⟨_, rfl, ⟨_, _, _, _, rfl, f3, f4, f5, f6⟩⟩, hS⟩⟩
theorem Tryz.inf_reps : (Tryz.prog.info? 68).map (fun i => (i.zero, i.size, i.bytes)) = some (some (.agg #[.int .i64 0, .int .i64 0, .int .i64 0, .int .i64 0, .slice none 0 0, .slice none 0 0, .slice none 0 0, .slice none 0 0]), 8, 128) := by kernel_rfl
set_option maxHeartbeats 2000000 in
/-- getList of PRep. -/
theorem rreps_any (L : Nat) (w : World) (r : Nat) (bv : Value) (l : List Int) (p : Nat) (hS : RS L w r bv l p) :
    Calls Tryz.prog 73 #[.pointer (some ⟨r, 0, none⟩), .func (.func 74) #[.pointer (some ⟨r, 0, none⟩)] #[]] w (RPost (cL cRep) (RL RRep 8) L w r bv l p) := by
  have hLw := hS.hL
  have hrL := hS.hr
  have hbl := hS.rd.1.1
  go_enter Tryz.func73, Tryz.ntmps73
  go_wp2_with fail
  refine (rnum_any L _ r bv l _ hS).mono ?_
  rintro e w1 ⟨hg1, ⟨hn, rfl⟩ | ⟨v1, n, p1, hrd1, rfl, hR1, hS1⟩⟩
  · go_wp2_with fail
    exact ⟨rfl, RPost.no hg1 (by simp [cL, hn])⟩
  have hR1 : v1 = .int .i64 n := hR1
  subst hR1
  have hn0 : 0 ≤ n := (okI_bd (cN_law.bwd _ _ _ (hbl.drop p) hrd1).1).1
  obtain ⟨N, rfl⟩ := Int.eq_ofNat_of_zero_le hn0
  have HR1 := (show Hid (cN.rd (l.drop p) = some ((N : Int), l.drop p1)) from hrd1)
  clear hrd1 hn0 hS
  by_cases hN : (64 : Int) < (N : Int)
  · go_wp2_with fail
    exact ⟨rfl, RPost.no hg1 (by simp only [cL, HR1.out, Option.bind_some]; rw [if_pos hN])⟩
  go_wp2_with fail
  go_loopw [6, 13] (fun v i wr => ∃ (q pq : Nat) (ys : List PRep), q ≤ N ∧ i = .int .i64 q ∧ ys.length = q ∧ Hid (rdN cRep q (l.drop p1) = some (ys, l.drop pq)) ∧ LB RRep 68 8 w.heap.size wr v ys ∧ RS L wr r bv l pq ∧ w.grownBy wr (some r)) (fun _ i _ => N - (intOf i).toNat)
  case atStart => exact ⟨0, p1, [], by omega, rfl, rfl, rfl, LB.nil _ _ _ _ _, hS1, hg1⟩
  case round =>
    obtain ⟨q, pq, ys, hq, rfl, hyl, hrdq, hLB, hSr, hGr⟩ := hrel
    by_cases hqN : q < N
    · go_wp2_with fail
      refine (rreport_any L _ r bv l _ hSr).mono ?_
      rintro e w3 ⟨hg3, ⟨hn, rfl⟩ | ⟨v3, y, p3, hrd3, rfl, hR3, hS3⟩⟩
      · have HN := (show Hid ((cL cRep).rd (l.drop p) = none) from list_gone (by omega) HR1.out hqN hrdq.out hn)
        clear hn
        go_wp2_with fail
        exact ⟨rfl, RPost.no (grown_trans hGr hg3 (.inl rfl)) HN.out⟩
      have HR3 := (show Hid (rdN cRep (q + 1) (l.drop p1) = some (ys ++ [y], l.drop p3)) from by show _ = _; rw [rdN_snoc, hrdq.out]; simp [hrd3])
      clear hrd3
      obtain ⟨cs, rfl, hRc⟩ := hR3
      have hc1 := one_RRep hRc
      have hcl : cs.length = 8 := len_RRep hRc
      have hRd := hRc
      obtain ⟨vd, vs, vp, vg, rfl, _, _, _, _⟩ := hRd
      have hLB3 := hLB.grown mov_rep hg3 (by omega)
      have hBs : w.heap.size ≤ wr.heap.size := hGr.size
      go_wp2_with (at_builtin; refine wl_push mov_rep rfl _ _ _ rfl 68 8 128 _ Tryz.underlying38 Tryz.inf_reps rfl (by decide) w.heap.size u6 ys rfl hLB3 [.int .i64 y.1.1, .int .i64 y.1.2, .int .i64 y.2.1, .int .i64 y.2.2.1, vd, vs, vp, vg] y wr.heap.size hRc hcl hc1 hBs hLB.lt rfl (Nat.le_trans hBs hg3.size) (by rw [hyl]; omega) (by decide) ?_; intro v4 w4 hLB4 hg4)
      have hG4 := grown_trans (grown_trans hGr hg3 (.inl rfl)) hg4 (.inr fun k hk => hLB.fr k hk)
      have hS4 := RS.own hS3 hg4 (fun k hk => Nat.le_trans (by omega) (hLB.fr k hk))
      go_roundw
      case rel => exact ⟨q + 1, p3, ys ++ [y], by omega, by go_num, by simp [hyl], HR3, hLB4, hS4, hG4⟩
      case measure => simp [intOf]; omega
    · obtain rfl : q = N := by omega
      have HE := (show Hid ((cL cRep).rd (l.drop p) = some (ys, l.drop pq)) from list_read (by omega) HR1.out hrdq.out)
      have hrl := hLB.rl mov_rep
      have hvo := hLB.form
      go_wp2_with fail
      go_ret
      exact ⟨hGr, .inr ⟨_, ys, pq, HE.out, rfl, hrl, hSr⟩⟩
end
section
open Go.RowKit Oct
/-- From block L on, the iterator's aside. -/
def GL (L it : Nat) : Nat → Prop := fun k => L ≤ k ∧ k ≠ it
theorem Mv.gl {L it : Nat} {w w' : World} {b : Nat} (hg : w.grownBy w' (some b)) (hb : b < L) : Mv (GL L it) (GL L it) w w' := fun k hk hlt => ⟨hg.block k hlt (fun e => by injection e with e; have := hk.1; omega), hk⟩
theorem Mv.toGl {L it B : Nat} {w : World} (hL : L ≤ B) (hi : it < B) : Mv (From B) (GL L it) w w := fun k hk _ => ⟨rfl, by unfold From at hk; unfold GL; omega⟩
/-- How decoding stands: w00 is the world ahead of it, r the reader's block, pm the message's, it the iterator's. -/
structure DS (w00 : World) (L it : Nat) (w : World) (r pm : Nat) (bv : Value) (l : List Int) (p : Nat) (m : PMsg) : Prop where
  bel : Below w00.heap.size w00 w
  bytes : RT Any w00 bv l
  rlo : w00.heap.size ≤ r
  plo : w00.heap.size ≤ pm
  rL : r < L
  pL : pm < L
  ne : r ≠ pm
  hL : L ≤ w.heap.size
  row : Row w r 75 [bv, .int .i64 (p : Int)]
  mrow : ∃ s, Row w pm 40 (mc m s) ∧ SOk (GL L it) w m s
  hp : p ≤ l.length
  hl : l.length ≤ 1048576
  itw : it < w.heap.size
theorem DS.rs {w00 : World} {L it : Nat} {w : World} {r pm : Nat} {bv : Value} {l : List Int} {p : Nat} {m : PMsg} (h : DS w00 L it w r pm bv l p m) : RS L w r bv l p :=
  ⟨h.row, h.bytes.mv fun k _ hk => ⟨h.bel.block k hk, by have := h.rlo; have := h.rL; omega⟩, h.hp, h.hL, h.rL, h.hl⟩
/-- What a call that reads a field comes to. -/
def DPost (i : Nat) (w00 : World) (L it : Nat) (w : World) (r pm : Nat) (bv : Value) (l : List Int) (p : Nat) (m : PMsg) (e : Ending) (w' : World) : Prop :=
  Two r pm w w' ∧ (((cF i).rd (l.drop p) = none ∧ e = .panicked [{ v := .iface 24 (.int .i64 51), recovered := false }] ∧ w.grownBy w' (some r)) ∨
    ∃ v p', (cF i).rd (l.drop p) = some (v, l.drop p') ∧ e = .returned (.tuple #[]) ∧ DS w00 L it w' r pm bv l p' (set m i v))
theorem DPost.no {i : Nat} {w00 : World} {L it : Nat} {w : World} {r pm : Nat} {bv : Value} {l : List Int} {p : Nat} {m : PMsg} {w' : World} (hg : w.grownBy w' (some r)) (hn : (cF i).rd (l.drop p) = none) :
    DPost i w00 L it w r pm bv l p m (.panicked [{ v := .iface 24 (.int .i64 51), recovered := false }]) w' := ⟨Two.of hg (grown_refl _ _), .inl ⟨hn, rfl, hg⟩⟩
theorem DPost.yes {i : Nat} {w00 : World} {L it : Nat} {w : World} {r pm : Nat} {bv : Value} {l : List Int} {p : Nat} {m : PMsg} {w1 w2 : World} {v : FV} {p' : Nat} (hD : DS w00 L it w r pm bv l p m) (hg1 : w.grownBy w1 (some r)) (hg2 : w1.grownBy w2 (some pm))
    (hS : RS L w1 r bv l p') (hrd : (cF i).rd (l.drop p) = some (v, l.drop p')) {s : SV} (hm : Row w2 pm 40 (mc (set m i v) s)) (hs : SOk (GL L it) w2 (set m i v) s) : DPost i w00 L it w r pm bv l p m (.returned (.tuple #[])) w2 := by
  refine ⟨Two.of hg1 hg2, .inr ⟨v, p', hrd, rfl, ?_⟩⟩
  have hb1 := hD.bel.trans (grown_below hg1 hD.bel.size (fun k hk => by cases hk; exact hD.rlo))
  exact ⟨hb1.trans (grown_below hg2 hb1.size (fun k hk => by cases hk; exact hD.plo)), hD.bytes, hD.rlo, hD.plo, hD.rL, hD.pL, hD.ne, Nat.le_trans hD.hL (Nat.le_trans hg1.size hg2.size), hS.row.grown hg2 (fun e => hD.ne (by injection e with e; exact e.symm)), ⟨s, hm, hs⟩, hS.hp, hD.hl, Nat.lt_of_lt_of_le hD.itw (Nat.le_trans hg1.size hg2.size)⟩
set_option maxHeartbeats 1000000 in
theorem rfield_0 (w00 : World) (L it : Nat) (w : World) (r pm : Nat) (bv : Value) (l : List Int) (p : Nat) (m : PMsg) (hD : DS w00 L it w r pm bv l p m) :
    Calls Tryz.prog 37 #[.pointer (some ⟨r, 0, none⟩), .pointer (some ⟨pm, 0, none⟩), .int .i32 66] w (DPost 0 w00 L it w r pm bv l p m) := by
  have hK := rballot_any L w r bv l p hD.rs
  obtain ⟨s, hm, hs⟩ := hD.mrow
  have hLw := hD.hL
  go_enter Tryz.func37, Tryz.ntmps37
  go_wp2_with fail
  refine hK.mono ?_
  rintro e w1 ⟨hg1, ⟨hn, rfl⟩ | ⟨v, a, p', hrd, rfl, hR, hS1⟩⟩
  · have HN := (show Hid ((cF 0).rd (l.drop p) = none) from (by show Option.map _ (cBal.rd (l.drop p)) = none; rw [hn]; rfl))
    clear hn
    go_wp2_with fail
    exact ⟨rfl, DPost.no hg1 HN.out⟩
  have HR := (show Hid ((cF 0).rd (l.drop p) = some (fbal a, l.drop p')) from (by show Option.map _ (cBal.rd (l.drop p)) = _; rw [hrd]; rfl))
  clear hrd
  have hm1 := hm.grown hg1 (fun e => hD.ne (by injection e))
  have hs1 := hs.mv hg1.size (Mv.gl hg1 hD.rL)
  have hpL := hD.pL
  obtain ⟨cs, rfl, hcs⟩ := hR
  have hcs : cs = [.int .i64 a.1, .int .i64 a.2] := hcs
  subst hcs
  go_wp2_with (refine wl_put rfl _ _ _ rfl pm 1 [.int .i64 a.1, .int .i64 a.2] rfl rfl _ _ hm1 (show 3 ≤ 23 by decide) (by kernel_rfl) one_bal ?_; intro w2 hr2 hg2)
  go_end0
  have hm2 : Row w2 pm 40 (mc (set m 0 (fbal a)) s) := hr2.out
  have hs2 := hs1.mv hg2.size (Mv.gl hg2 hpL)
  exact DPost.yes hD hg1 hg2 hS1 HR.out hm2 ⟨hs2.o, hs2.g, hs2.o', hs2.g', hs2.d, hs2.s, hs2.c, hs2.v, hs2.n, hs2.p, hs2.l⟩
set_option maxHeartbeats 1000000 in
theorem rfield_1 (w00 : World) (L it : Nat) (w : World) (r pm : Nat) (bv : Value) (l : List Int) (p : Nat) (m : PMsg) (hD : DS w00 L it w r pm bv l p m) :
    Calls Tryz.prog 37 #[.pointer (some ⟨r, 0, none⟩), .pointer (some ⟨pm, 0, none⟩), .int .i32 83] w (DPost 1 w00 L it w r pm bv l p m) := by
  have hK := rnum_any L w r bv l p hD.rs
  obtain ⟨s, hm, hs⟩ := hD.mrow
  have hLw := hD.hL
  go_enter Tryz.func37, Tryz.ntmps37
  go_wp2_with fail
  refine hK.mono ?_
  rintro e w1 ⟨hg1, ⟨hn, rfl⟩ | ⟨v, a, p', hrd, rfl, hR, hS1⟩⟩
  · have HN := (show Hid ((cF 1).rd (l.drop p) = none) from (by show Option.map _ (cN.rd (l.drop p)) = none; rw [hn]; rfl))
    clear hn
    go_wp2_with fail
    exact ⟨rfl, DPost.no hg1 HN.out⟩
  have HR := (show Hid ((cF 1).rd (l.drop p) = some (fnum a, l.drop p')) from (by show Option.map _ (cN.rd (l.drop p)) = _; rw [hrd]; rfl))
  clear hrd
  have hm1 := hm.grown hg1 (fun e => hD.ne (by injection e))
  have hs1 := hs.mv hg1.size (Mv.gl hg1 hD.rL)
  have hpL := hD.pL
  have hR : v = .int .i64 a := hR
  subst hR
  go_wp2_with (refine wl_set rfl _ _ _ rfl pm 3 _ rfl rfl _ _ hm1 (show 3 < 23 by decide) (by kernel_rfl) rfl ?_; intro w2 hr2 hg2)
  go_end0
  have hm2 : Row w2 pm 40 (mc (set m 1 (fnum a)) s) := hr2.out
  have hs2 := hs1.mv hg2.size (Mv.gl hg2 hpL)
  exact DPost.yes hD hg1 hg2 hS1 HR.out hm2 ⟨hs2.o, hs2.g, hs2.o', hs2.g', hs2.d, hs2.s, hs2.c, hs2.v, hs2.n, hs2.p, hs2.l⟩
set_option maxHeartbeats 1000000 in
theorem rfield_2 (w00 : World) (L it : Nat) (w : World) (r pm : Nat) (bv : Value) (l : List Int) (p : Nat) (m : PMsg) (hD : DS w00 L it w r pm bv l p m) :
    Calls Tryz.prog 37 #[.pointer (some ⟨r, 0, none⟩), .pointer (some ⟨pm, 0, none⟩), .int .i32 70] w (DPost 2 w00 L it w r pm bv l p m) := by
  have hK := rnum_any L w r bv l p hD.rs
  obtain ⟨s, hm, hs⟩ := hD.mrow
  have hLw := hD.hL
  go_enter Tryz.func37, Tryz.ntmps37
  go_wp2_with fail
  refine hK.mono ?_
  rintro e w1 ⟨hg1, ⟨hn, rfl⟩ | ⟨v, a, p', hrd, rfl, hR, hS1⟩⟩
  · have HN := (show Hid ((cF 2).rd (l.drop p) = none) from (by show Option.map _ (cN.rd (l.drop p)) = none; rw [hn]; rfl))
    clear hn
    go_wp2_with fail
    exact ⟨rfl, DPost.no hg1 HN.out⟩
  have HR := (show Hid ((cF 2).rd (l.drop p) = some (fnum a, l.drop p')) from (by show Option.map _ (cN.rd (l.drop p)) = _; rw [hrd]; rfl))
  clear hrd
  have hm1 := hm.grown hg1 (fun e => hD.ne (by injection e))
  have hs1 := hs.mv hg1.size (Mv.gl hg1 hD.rL)
  have hpL := hD.pL
  have hR : v = .int .i64 a := hR
  subst hR
  go_wp2_with (refine wl_set rfl _ _ _ rfl pm 4 _ rfl rfl _ _ hm1 (show 4 < 23 by decide) (by kernel_rfl) rfl ?_; intro w2 hr2 hg2)
  go_end0
  have hm2 : Row w2 pm 40 (mc (set m 2 (fnum a)) s) := hr2.out
  have hs2 := hs1.mv hg2.size (Mv.gl hg2 hpL)
  exact DPost.yes hD hg1 hg2 hS1 HR.out hm2 ⟨hs2.o, hs2.g, hs2.o', hs2.g', hs2.d, hs2.s, hs2.c, hs2.v, hs2.n, hs2.p, hs2.l⟩
set_option maxHeartbeats 1000000 in
theorem rfield_3 (w00 : World) (L it : Nat) (w : World) (r pm : Nat) (bv : Value) (l : List Int) (p : Nat) (m : PMsg) (hD : DS w00 L it w r pm bv l p m) :
    Calls Tryz.prog 37 #[.pointer (some ⟨r, 0, none⟩), .pointer (some ⟨pm, 0, none⟩), .int .i32 84] w (DPost 3 w00 L it w r pm bv l p m) := by
  have hK := rnum_any L w r bv l p hD.rs
  obtain ⟨s, hm, hs⟩ := hD.mrow
  have hLw := hD.hL
  go_enter Tryz.func37, Tryz.ntmps37
  go_wp2_with fail
  refine hK.mono ?_
  rintro e w1 ⟨hg1, ⟨hn, rfl⟩ | ⟨v, a, p', hrd, rfl, hR, hS1⟩⟩
  · have HN := (show Hid ((cF 3).rd (l.drop p) = none) from (by show Option.map _ (cN.rd (l.drop p)) = none; rw [hn]; rfl))
    clear hn
    go_wp2_with fail
    exact ⟨rfl, DPost.no hg1 HN.out⟩
  have HR := (show Hid ((cF 3).rd (l.drop p) = some (fnum a, l.drop p')) from (by show Option.map _ (cN.rd (l.drop p)) = _; rw [hrd]; rfl))
  clear hrd
  have hm1 := hm.grown hg1 (fun e => hD.ne (by injection e))
  have hs1 := hs.mv hg1.size (Mv.gl hg1 hD.rL)
  have hpL := hD.pL
  have hR : v = .int .i64 a := hR
  subst hR
  go_wp2_with (refine wl_set rfl _ _ _ rfl pm 5 _ rfl rfl _ _ hm1 (show 5 < 23 by decide) (by kernel_rfl) rfl ?_; intro w2 hr2 hg2)
  go_end0
  have hm2 : Row w2 pm 40 (mc (set m 3 (fnum a)) s) := hr2.out
  have hs2 := hs1.mv hg2.size (Mv.gl hg2 hpL)
  exact DPost.yes hD hg1 hg2 hS1 HR.out hm2 ⟨hs2.o, hs2.g, hs2.o', hs2.g', hs2.d, hs2.s, hs2.c, hs2.v, hs2.n, hs2.p, hs2.l⟩
set_option maxHeartbeats 1000000 in
theorem rfield_4 (w00 : World) (L it : Nat) (w : World) (r pm : Nat) (bv : Value) (l : List Int) (p : Nat) (m : PMsg) (hD : DS w00 L it w r pm bv l p m) :
    Calls Tryz.prog 37 #[.pointer (some ⟨r, 0, none⟩), .pointer (some ⟨pm, 0, none⟩), .int .i32 73] w (DPost 4 w00 L it w r pm bv l p m) := by
  have hK := rnum_any L w r bv l p hD.rs
  obtain ⟨s, hm, hs⟩ := hD.mrow
  have hLw := hD.hL
  go_enter Tryz.func37, Tryz.ntmps37
  go_wp2_with fail
  refine hK.mono ?_
  rintro e w1 ⟨hg1, ⟨hn, rfl⟩ | ⟨v, a, p', hrd, rfl, hR, hS1⟩⟩
  · have HN := (show Hid ((cF 4).rd (l.drop p) = none) from (by show Option.map _ (cN.rd (l.drop p)) = none; rw [hn]; rfl))
    clear hn
    go_wp2_with fail
    exact ⟨rfl, DPost.no hg1 HN.out⟩
  have HR := (show Hid ((cF 4).rd (l.drop p) = some (fnum a, l.drop p')) from (by show Option.map _ (cN.rd (l.drop p)) = _; rw [hrd]; rfl))
  clear hrd
  have hm1 := hm.grown hg1 (fun e => hD.ne (by injection e))
  have hs1 := hs.mv hg1.size (Mv.gl hg1 hD.rL)
  have hpL := hD.pL
  have hR : v = .int .i64 a := hR
  subst hR
  go_wp2_with (refine wl_set rfl _ _ _ rfl pm 6 _ rfl rfl _ _ hm1 (show 6 < 23 by decide) (by kernel_rfl) rfl ?_; intro w2 hr2 hg2)
  go_end0
  have hm2 : Row w2 pm 40 (mc (set m 4 (fnum a)) s) := hr2.out
  have hs2 := hs1.mv hg2.size (Mv.gl hg2 hpL)
  exact DPost.yes hD hg1 hg2 hS1 HR.out hm2 ⟨hs2.o, hs2.g, hs2.o', hs2.g', hs2.d, hs2.s, hs2.c, hs2.v, hs2.n, hs2.p, hs2.l⟩
set_option maxHeartbeats 1000000 in
theorem rfield_5 (w00 : World) (L it : Nat) (w : World) (r pm : Nat) (bv : Value) (l : List Int) (p : Nat) (m : PMsg) (hD : DS w00 L it w r pm bv l p m) :
    Calls Tryz.prog 37 #[.pointer (some ⟨r, 0, none⟩), .pointer (some ⟨pm, 0, none⟩), .int .i32 67] w (DPost 5 w00 L it w r pm bv l p m) := by
  have hK := rnum_any L w r bv l p hD.rs
  obtain ⟨s, hm, hs⟩ := hD.mrow
  have hLw := hD.hL
  go_enter Tryz.func37, Tryz.ntmps37
  go_wp2_with fail
  refine hK.mono ?_
  rintro e w1 ⟨hg1, ⟨hn, rfl⟩ | ⟨v, a, p', hrd, rfl, hR, hS1⟩⟩
  · have HN := (show Hid ((cF 5).rd (l.drop p) = none) from (by show Option.map _ (cN.rd (l.drop p)) = none; rw [hn]; rfl))
    clear hn
    go_wp2_with fail
    exact ⟨rfl, DPost.no hg1 HN.out⟩
  have HR := (show Hid ((cF 5).rd (l.drop p) = some (fnum a, l.drop p')) from (by show Option.map _ (cN.rd (l.drop p)) = _; rw [hrd]; rfl))
  clear hrd
  have hm1 := hm.grown hg1 (fun e => hD.ne (by injection e))
  have hs1 := hs.mv hg1.size (Mv.gl hg1 hD.rL)
  have hpL := hD.pL
  have hR : v = .int .i64 a := hR
  subst hR
  go_wp2_with (refine wl_set rfl _ _ _ rfl pm 7 _ rfl rfl _ _ hm1 (show 7 < 23 by decide) (by kernel_rfl) rfl ?_; intro w2 hr2 hg2)
  go_end0
  have hm2 : Row w2 pm 40 (mc (set m 5 (fnum a)) s) := hr2.out
  have hs2 := hs1.mv hg2.size (Mv.gl hg2 hpL)
  exact DPost.yes hD hg1 hg2 hS1 HR.out hm2 ⟨hs2.o, hs2.g, hs2.o', hs2.g', hs2.d, hs2.s, hs2.c, hs2.v, hs2.n, hs2.p, hs2.l⟩
set_option maxHeartbeats 1000000 in
theorem rfield_6 (w00 : World) (L it : Nat) (w : World) (r pm : Nat) (bv : Value) (l : List Int) (p : Nat) (m : PMsg) (hD : DS w00 L it w r pm bv l p m) :
    Calls Tryz.prog 37 #[.pointer (some ⟨r, 0, none⟩), .pointer (some ⟨pm, 0, none⟩), .int .i32 82] w (DPost 6 w00 L it w r pm bv l p m) := by
  have hK := rrequest_any L w r bv l p hD.rs
  obtain ⟨s, hm, hs⟩ := hD.mrow
  have hLw := hD.hL
  go_enter Tryz.func37, Tryz.ntmps37
  go_wp2_with fail
  refine hK.mono ?_
  rintro e w1 ⟨hg1, ⟨hn, rfl⟩ | ⟨v, a, p', hrd, rfl, hR, hS1⟩⟩
  · have HN := (show Hid ((cF 6).rd (l.drop p) = none) from (by show Option.map _ (cReq.rd (l.drop p)) = none; rw [hn]; rfl))
    clear hn
    go_wp2_with fail
    exact ⟨rfl, DPost.no hg1 HN.out⟩
  have HR := (show Hid ((cF 6).rd (l.drop p) = some (freq a, l.drop p')) from (by show Option.map _ (cReq.rd (l.drop p)) = _; rw [hrd]; rfl))
  clear hrd
  have hm1 := hm.grown hg1 (fun e => hD.ne (by injection e))
  have hs1 := hs.mv hg1.size (Mv.gl hg1 hD.rL)
  have hpL := hD.pL
  obtain ⟨cs, rfl, vo, vg, hcs, fo, fg⟩ := hR
  subst hcs
  have fo := fo.mv (Mv.toGl (it := it) hLw hD.itw)
  have fg := fg.mv (Mv.toGl (it := it) hLw hD.itw)
  go_wp2_with (refine wl_put rfl _ _ _ rfl pm 8 [.int .i64 a.1, .int .i64 a.2.1, vo, vg] rfl rfl _ _ hm1 (show 12 ≤ 23 by decide) (by kernel_rfl) (one_RReq (G := GL L it) (w := w1) (x := a) ⟨_, _, rfl, fo, fg⟩) ?_; intro w2 hr2 hg2)
  go_end0
  have hm2 : Row w2 pm 40 (mc (set m 6 (freq a)) { s with o := vo, g := vg }) := hr2.out
  have hs2 := hs1.mv hg2.size (Mv.gl hg2 hpL)
  have fo := fo.mv (Mv.gl hg2 hpL)
  have fg := fg.mv (Mv.gl hg2 hpL)
  exact DPost.yes hD hg1 hg2 hS1 HR.out hm2 ⟨fo, fg, hs2.o', hs2.g', hs2.d, hs2.s, hs2.c, hs2.v, hs2.n, hs2.p, hs2.l⟩
set_option maxHeartbeats 1000000 in
theorem rfield_7 (w00 : World) (L it : Nat) (w : World) (r pm : Nat) (bv : Value) (l : List Int) (p : Nat) (m : PMsg) (hD : DS w00 L it w r pm bv l p m) :
    Calls Tryz.prog 37 #[.pointer (some ⟨r, 0, none⟩), .pointer (some ⟨pm, 0, none⟩), .int .i32 79] w (DPost 7 w00 L it w r pm bv l p m) := by
  have hK := rrequest_any L w r bv l p hD.rs
  obtain ⟨s, hm, hs⟩ := hD.mrow
  have hLw := hD.hL
  go_enter Tryz.func37, Tryz.ntmps37
  go_wp2_with fail
  refine hK.mono ?_
  rintro e w1 ⟨hg1, ⟨hn, rfl⟩ | ⟨v, a, p', hrd, rfl, hR, hS1⟩⟩
  · have HN := (show Hid ((cF 7).rd (l.drop p) = none) from (by show Option.map _ (cReq.rd (l.drop p)) = none; rw [hn]; rfl))
    clear hn
    go_wp2_with fail
    exact ⟨rfl, DPost.no hg1 HN.out⟩
  have HR := (show Hid ((cF 7).rd (l.drop p) = some (freq a, l.drop p')) from (by show Option.map _ (cReq.rd (l.drop p)) = _; rw [hrd]; rfl))
  clear hrd
  have hm1 := hm.grown hg1 (fun e => hD.ne (by injection e))
  have hs1 := hs.mv hg1.size (Mv.gl hg1 hD.rL)
  have hpL := hD.pL
  obtain ⟨cs, rfl, vo, vg, hcs, fo, fg⟩ := hR
  subst hcs
  have fo := fo.mv (Mv.toGl (it := it) hLw hD.itw)
  have fg := fg.mv (Mv.toGl (it := it) hLw hD.itw)
  go_wp2_with (refine wl_put rfl _ _ _ rfl pm 12 [.int .i64 a.1, .int .i64 a.2.1, vo, vg] rfl rfl _ _ hm1 (show 16 ≤ 23 by decide) (by kernel_rfl) (one_RReq (G := GL L it) (w := w1) (x := a) ⟨_, _, rfl, fo, fg⟩) ?_; intro w2 hr2 hg2)
  go_end0
  have hm2 : Row w2 pm 40 (mc (set m 7 (freq a)) { s with o' := vo, g' := vg }) := hr2.out
  have hs2 := hs1.mv hg2.size (Mv.gl hg2 hpL)
  have fo := fo.mv (Mv.gl hg2 hpL)
  have fg := fg.mv (Mv.gl hg2 hpL)
  exact DPost.yes hD hg1 hg2 hS1 HR.out hm2 ⟨hs2.o, hs2.g, fo, fg, hs2.d, hs2.s, hs2.c, hs2.v, hs2.n, hs2.p, hs2.l⟩
set_option maxHeartbeats 1000000 in
theorem rfield_8 (w00 : World) (L it : Nat) (w : World) (r pm : Nat) (bv : Value) (l : List Int) (p : Nat) (m : PMsg) (hD : DS w00 L it w r pm bv l p m) :
    Calls Tryz.prog 37 #[.pointer (some ⟨r, 0, none⟩), .pointer (some ⟨pm, 0, none⟩), .int .i32 68] w (DPost 8 w00 L it w r pm bv l p m) := by
  have hK := rtext_any L w r bv l p hD.rs
  obtain ⟨s, hm, hs⟩ := hD.mrow
  have hLw := hD.hL
  go_enter Tryz.func37, Tryz.ntmps37
  go_wp2_with fail
  refine hK.mono ?_
  rintro e w1 ⟨hg1, ⟨hn, rfl⟩ | ⟨v, a, p', hrd, rfl, hR, hS1⟩⟩
  · have HN := (show Hid ((cF 8).rd (l.drop p) = none) from (by show Option.map _ (cT.rd (l.drop p)) = none; rw [hn]; rfl))
    clear hn
    go_wp2_with fail
    exact ⟨rfl, DPost.no hg1 HN.out⟩
  have HR := (show Hid ((cF 8).rd (l.drop p) = some (ftxt a, l.drop p')) from (by show Option.map _ (cT.rd (l.drop p)) = _; rw [hrd]; rfl))
  clear hrd
  have hm1 := hm.grown hg1 (fun e => hD.ne (by injection e))
  have hs1 := hs.mv hg1.size (Mv.gl hg1 hD.rL)
  have hpL := hD.pL
  have fv := hR.mv (Mv.toGl (it := it) hLw hD.itw)
  go_wp2_with (refine wl_set rfl _ _ _ rfl pm 16 _ rfl rfl _ _ hm1 (show 16 < 23 by decide) (by kernel_rfl) fv.one ?_; intro w2 hr2 hg2)
  go_end0
  have hm2 : Row w2 pm 40 (mc (set m 8 (ftxt a)) { s with d := v }) := hr2.out
  have hs2 := hs1.mv hg2.size (Mv.gl hg2 hpL)
  have fv := fv.mv (Mv.gl hg2 hpL)
  exact DPost.yes hD hg1 hg2 hS1 HR.out hm2 ⟨hs2.o, hs2.g, hs2.o', hs2.g', fv, hs2.s, hs2.c, hs2.v, hs2.n, hs2.p, hs2.l⟩
set_option maxHeartbeats 1000000 in
theorem rfield_9 (w00 : World) (L it : Nat) (w : World) (r pm : Nat) (bv : Value) (l : List Int) (p : Nat) (m : PMsg) (hD : DS w00 L it w r pm bv l p m) :
    Calls Tryz.prog 37 #[.pointer (some ⟨r, 0, none⟩), .pointer (some ⟨pm, 0, none⟩), .int .i32 71] w (DPost 9 w00 L it w r pm bv l p m) := by
  have hK := rtext_any L w r bv l p hD.rs
  obtain ⟨s, hm, hs⟩ := hD.mrow
  have hLw := hD.hL
  go_enter Tryz.func37, Tryz.ntmps37
  go_wp2_with fail
  refine hK.mono ?_
  rintro e w1 ⟨hg1, ⟨hn, rfl⟩ | ⟨v, a, p', hrd, rfl, hR, hS1⟩⟩
  · have HN := (show Hid ((cF 9).rd (l.drop p) = none) from (by show Option.map _ (cT.rd (l.drop p)) = none; rw [hn]; rfl))
    clear hn
    go_wp2_with fail
    exact ⟨rfl, DPost.no hg1 HN.out⟩
  have HR := (show Hid ((cF 9).rd (l.drop p) = some (ftxt a, l.drop p')) from (by show Option.map _ (cT.rd (l.drop p)) = _; rw [hrd]; rfl))
  clear hrd
  have hm1 := hm.grown hg1 (fun e => hD.ne (by injection e))
  have hs1 := hs.mv hg1.size (Mv.gl hg1 hD.rL)
  have hpL := hD.pL
  have fv := hR.mv (Mv.toGl (it := it) hLw hD.itw)
  go_wp2_with (refine wl_set rfl _ _ _ rfl pm 17 _ rfl rfl _ _ hm1 (show 17 < 23 by decide) (by kernel_rfl) fv.one ?_; intro w2 hr2 hg2)
  go_end0
  have hm2 : Row w2 pm 40 (mc (set m 9 (ftxt a)) { s with s := v }) := hr2.out
  have hs2 := hs1.mv hg2.size (Mv.gl hg2 hpL)
  have fv := fv.mv (Mv.gl hg2 hpL)
  exact DPost.yes hD hg1 hg2 hS1 HR.out hm2 ⟨hs2.o, hs2.g, hs2.o', hs2.g', hs2.d, fv, hs2.c, hs2.v, hs2.n, hs2.p, hs2.l⟩
set_option maxHeartbeats 1000000 in
theorem rfield_10 (w00 : World) (L it : Nat) (w : World) (r pm : Nat) (bv : Value) (l : List Int) (p : Nat) (m : PMsg) (hD : DS w00 L it w r pm bv l p m) :
    Calls Tryz.prog 37 #[.pointer (some ⟨r, 0, none⟩), .pointer (some ⟨pm, 0, none⟩), .int .i32 69] w (DPost 10 w00 L it w r pm bv l p m) := by
  have hK := rvotes_any L w r bv l p hD.rs
  obtain ⟨s, hm, hs⟩ := hD.mrow
  have hLw := hD.hL
  go_enter Tryz.func37, Tryz.ntmps37
  go_wp2_with fail
  refine hK.mono ?_
  rintro e w1 ⟨hg1, ⟨hn, rfl⟩ | ⟨v, a, p', hrd, rfl, hR, hS1⟩⟩
  · have HN := (show Hid ((cF 10).rd (l.drop p) = none) from (by show Option.map _ ((cL cVote).rd (l.drop p)) = none; rw [hn]; rfl))
    clear hn
    go_wp2_with fail
    exact ⟨rfl, DPost.no hg1 HN.out⟩
  have HR := (show Hid ((cF 10).rd (l.drop p) = some (fvotes a, l.drop p')) from (by show Option.map _ ((cL cVote).rd (l.drop p)) = _; rw [hrd]; rfl))
  clear hrd
  have hm1 := hm.grown hg1 (fun e => hD.ne (by injection e))
  have hs1 := hs.mv hg1.size (Mv.gl hg1 hD.rL)
  have hpL := hD.pL
  have fv := hR.mv mov_vote (Nat.le_refl _) (Mv.toGl (it := it) hLw hD.itw)
  go_wp2_with (refine wl_set rfl _ _ _ rfl pm 18 _ rfl rfl _ _ hm1 (show 18 < 23 by decide) (by kernel_rfl) fv.one ?_; intro w2 hr2 hg2)
  go_end0
  have hm2 : Row w2 pm 40 (mc (set m 10 (fvotes a)) { s with c := v }) := hr2.out
  have hs2 := hs1.mv hg2.size (Mv.gl hg2 hpL)
  have fv := fv.mv mov_vote hg2.size (Mv.gl hg2 hpL)
  exact DPost.yes hD hg1 hg2 hS1 HR.out hm2 ⟨hs2.o, hs2.g, hs2.o', hs2.g', hs2.d, hs2.s, fv, hs2.v, hs2.n, hs2.p, hs2.l⟩
set_option maxHeartbeats 1000000 in
theorem rfield_11 (w00 : World) (L it : Nat) (w : World) (r pm : Nat) (bv : Value) (l : List Int) (p : Nat) (m : PMsg) (hD : DS w00 L it w r pm bv l p m) :
    Calls Tryz.prog 37 #[.pointer (some ⟨r, 0, none⟩), .pointer (some ⟨pm, 0, none⟩), .int .i32 86] w (DPost 11 w00 L it w r pm bv l p m) := by
  have hK := rvotes_any L w r bv l p hD.rs
  obtain ⟨s, hm, hs⟩ := hD.mrow
  have hLw := hD.hL
  go_enter Tryz.func37, Tryz.ntmps37
  go_wp2_with fail
  refine hK.mono ?_
  rintro e w1 ⟨hg1, ⟨hn, rfl⟩ | ⟨v, a, p', hrd, rfl, hR, hS1⟩⟩
  · have HN := (show Hid ((cF 11).rd (l.drop p) = none) from (by show Option.map _ ((cL cVote).rd (l.drop p)) = none; rw [hn]; rfl))
    clear hn
    go_wp2_with fail
    exact ⟨rfl, DPost.no hg1 HN.out⟩
  have HR := (show Hid ((cF 11).rd (l.drop p) = some (fvotes a, l.drop p')) from (by show Option.map _ ((cL cVote).rd (l.drop p)) = _; rw [hrd]; rfl))
  clear hrd
  have hm1 := hm.grown hg1 (fun e => hD.ne (by injection e))
  have hs1 := hs.mv hg1.size (Mv.gl hg1 hD.rL)
  have hpL := hD.pL
  have fv := hR.mv mov_vote (Nat.le_refl _) (Mv.toGl (it := it) hLw hD.itw)
  go_wp2_with (refine wl_set rfl _ _ _ rfl pm 19 _ rfl rfl _ _ hm1 (show 19 < 23 by decide) (by kernel_rfl) fv.one ?_; intro w2 hr2 hg2)
  go_end0
  have hm2 : Row w2 pm 40 (mc (set m 11 (fvotes a)) { s with v := v }) := hr2.out
  have hs2 := hs1.mv hg2.size (Mv.gl hg2 hpL)
  have fv := fv.mv mov_vote hg2.size (Mv.gl hg2 hpL)
  exact DPost.yes hD hg1 hg2 hS1 HR.out hm2 ⟨hs2.o, hs2.g, hs2.o', hs2.g', hs2.d, hs2.s, hs2.c, fv, hs2.n, hs2.p, hs2.l⟩
set_option maxHeartbeats 1000000 in
theorem rfield_12 (w00 : World) (L it : Nat) (w : World) (r pm : Nat) (bv : Value) (l : List Int) (p : Nat) (m : PMsg) (hD : DS w00 L it w r pm bv l p m) :
    Calls Tryz.prog 37 #[.pointer (some ⟨r, 0, none⟩), .pointer (some ⟨pm, 0, none⟩), .int .i32 78] w (DPost 12 w00 L it w r pm bv l p m) := by
  have hK := rints_any L w r bv l p hD.rs
  obtain ⟨s, hm, hs⟩ := hD.mrow
  have hLw := hD.hL
  go_enter Tryz.func37, Tryz.ntmps37
  go_wp2_with fail
  refine hK.mono ?_
  rintro e w1 ⟨hg1, ⟨hn, rfl⟩ | ⟨v, a, p', hrd, rfl, hR, hS1⟩⟩
  · have HN := (show Hid ((cF 12).rd (l.drop p) = none) from (by show Option.map _ ((cL cN).rd (l.drop p)) = none; rw [hn]; rfl))
    clear hn
    go_wp2_with fail
    exact ⟨rfl, DPost.no hg1 HN.out⟩
  have HR := (show Hid ((cF 12).rd (l.drop p) = some (fints a, l.drop p')) from (by show Option.map _ ((cL cN).rd (l.drop p)) = _; rw [hrd]; rfl))
  clear hrd
  have hm1 := hm.grown hg1 (fun e => hD.ne (by injection e))
  have hs1 := hs.mv hg1.size (Mv.gl hg1 hD.rL)
  have hpL := hD.pL
  have fv := hR.mv mov_int (Nat.le_refl _) (Mv.toGl (it := it) hLw hD.itw)
  go_wp2_with (refine wl_set rfl _ _ _ rfl pm 20 _ rfl rfl _ _ hm1 (show 20 < 23 by decide) (by kernel_rfl) fv.one ?_; intro w2 hr2 hg2)
  go_end0
  have hm2 : Row w2 pm 40 (mc (set m 12 (fints a)) { s with n := v }) := hr2.out
  have hs2 := hs1.mv hg2.size (Mv.gl hg2 hpL)
  have fv := fv.mv mov_int hg2.size (Mv.gl hg2 hpL)
  exact DPost.yes hD hg1 hg2 hS1 HR.out hm2 ⟨hs2.o, hs2.g, hs2.o', hs2.g', hs2.d, hs2.s, hs2.c, hs2.v, fv, hs2.p, hs2.l⟩
set_option maxHeartbeats 1000000 in
theorem rfield_13 (w00 : World) (L it : Nat) (w : World) (r pm : Nat) (bv : Value) (l : List Int) (p : Nat) (m : PMsg) (hD : DS w00 L it w r pm bv l p m) :
    Calls Tryz.prog 37 #[.pointer (some ⟨r, 0, none⟩), .pointer (some ⟨pm, 0, none⟩), .int .i32 80] w (DPost 13 w00 L it w r pm bv l p m) := by
  have hK := rreqs_any L w r bv l p hD.rs
  obtain ⟨s, hm, hs⟩ := hD.mrow
  have hLw := hD.hL
  go_enter Tryz.func37, Tryz.ntmps37
  go_wp2_with fail
  refine hK.mono ?_
  rintro e w1 ⟨hg1, ⟨hn, rfl⟩ | ⟨v, a, p', hrd, rfl, hR, hS1⟩⟩
  · have HN := (show Hid ((cF 13).rd (l.drop p) = none) from (by show Option.map _ ((cL cReq).rd (l.drop p)) = none; rw [hn]; rfl))
    clear hn
    go_wp2_with fail
    exact ⟨rfl, DPost.no hg1 HN.out⟩
  have HR := (show Hid ((cF 13).rd (l.drop p) = some (freqs a, l.drop p')) from (by show Option.map _ ((cL cReq).rd (l.drop p)) = _; rw [hrd]; rfl))
  clear hrd
  have hm1 := hm.grown hg1 (fun e => hD.ne (by injection e))
  have hs1 := hs.mv hg1.size (Mv.gl hg1 hD.rL)
  have hpL := hD.pL
  have fv := hR.mv mov_req (Nat.le_refl _) (Mv.toGl (it := it) hLw hD.itw)
  go_wp2_with (refine wl_set rfl _ _ _ rfl pm 21 _ rfl rfl _ _ hm1 (show 21 < 23 by decide) (by kernel_rfl) fv.one ?_; intro w2 hr2 hg2)
  go_end0
  have hm2 : Row w2 pm 40 (mc (set m 13 (freqs a)) { s with p := v }) := hr2.out
  have hs2 := hs1.mv hg2.size (Mv.gl hg2 hpL)
  have fv := fv.mv mov_req hg2.size (Mv.gl hg2 hpL)
  exact DPost.yes hD hg1 hg2 hS1 HR.out hm2 ⟨hs2.o, hs2.g, hs2.o', hs2.g', hs2.d, hs2.s, hs2.c, hs2.v, hs2.n, fv, hs2.l⟩
set_option maxHeartbeats 1000000 in
theorem rfield_14 (w00 : World) (L it : Nat) (w : World) (r pm : Nat) (bv : Value) (l : List Int) (p : Nat) (m : PMsg) (hD : DS w00 L it w r pm bv l p m) :
    Calls Tryz.prog 37 #[.pointer (some ⟨r, 0, none⟩), .pointer (some ⟨pm, 0, none⟩), .int .i32 76] w (DPost 14 w00 L it w r pm bv l p m) := by
  have hK := rreps_any L w r bv l p hD.rs
  obtain ⟨s, hm, hs⟩ := hD.mrow
  have hLw := hD.hL
  go_enter Tryz.func37, Tryz.ntmps37
  go_wp2_with fail
  refine hK.mono ?_
  rintro e w1 ⟨hg1, ⟨hn, rfl⟩ | ⟨v, a, p', hrd, rfl, hR, hS1⟩⟩
  · have HN := (show Hid ((cF 14).rd (l.drop p) = none) from (by show Option.map _ ((cL cRep).rd (l.drop p)) = none; rw [hn]; rfl))
    clear hn
    go_wp2_with fail
    exact ⟨rfl, DPost.no hg1 HN.out⟩
  have HR := (show Hid ((cF 14).rd (l.drop p) = some (freps a, l.drop p')) from (by show Option.map _ ((cL cRep).rd (l.drop p)) = _; rw [hrd]; rfl))
  clear hrd
  have hm1 := hm.grown hg1 (fun e => hD.ne (by injection e))
  have hs1 := hs.mv hg1.size (Mv.gl hg1 hD.rL)
  have hpL := hD.pL
  have fv := hR.mv mov_rep (Nat.le_refl _) (Mv.toGl (it := it) hLw hD.itw)
  go_wp2_with (refine wl_set rfl _ _ _ rfl pm 22 _ rfl rfl _ _ hm1 (show 22 < 23 by decide) (by kernel_rfl) fv.one ?_; intro w2 hr2 hg2)
  go_end0
  have hm2 : Row w2 pm 40 (mc (set m 14 (freps a)) { s with l := v }) := hr2.out
  have hs2 := hs1.mv hg2.size (Mv.gl hg2 hpL)
  have fv := fv.mv mov_rep hg2.size (Mv.gl hg2 hpL)
  exact DPost.yes hD hg1 hg2 hS1 HR.out hm2 ⟨hs2.o, hs2.g, hs2.o', hs2.g', hs2.d, hs2.s, hs2.c, hs2.v, hs2.n, hs2.p, fv⟩
/-- field. -/
theorem rfield_any (w00 : World) (L it : Nat) (w : World) (r pm : Nat) (bv : Value) (l : List Int) (p : Nat) (m : PMsg) (hD : DS w00 L it w r pm bv l p m) {i : Nat} (h : i < 15) :
    Calls Tryz.prog 37 #[.pointer (some ⟨r, 0, none⟩), .pointer (some ⟨pm, 0, none⟩), .int .i32 (lt i)] w (DPost i w00 L it w r pm bv l p m) := by
  rcases lt15 h with rfl | rfl | rfl | rfl | rfl | rfl | rfl | rfl | rfl | rfl | rfl | rfl | rfl | rfl | rfl
  · exact rfield_0 w00 L it w r pm bv l p m hD
  · exact rfield_1 w00 L it w r pm bv l p m hD
  · exact rfield_2 w00 L it w r pm bv l p m hD
  · exact rfield_3 w00 L it w r pm bv l p m hD
  · exact rfield_4 w00 L it w r pm bv l p m hD
  · exact rfield_5 w00 L it w r pm bv l p m hD
  · exact rfield_6 w00 L it w r pm bv l p m hD
  · exact rfield_7 w00 L it w r pm bv l p m hD
  · exact rfield_8 w00 L it w r pm bv l p m hD
  · exact rfield_9 w00 L it w r pm bv l p m hD
  · exact rfield_10 w00 L it w r pm bv l p m hD
  · exact rfield_11 w00 L it w r pm bv l p m hD
  · exact rfield_12 w00 L it w r pm bv l p m hD
  · exact rfield_13 w00 L it w r pm bv l p m hD
  · exact rfield_14 w00 L it w r pm bv l p m hD
end
end Go.Proofs.YtgjepofinpmcpaaGreatDoor
