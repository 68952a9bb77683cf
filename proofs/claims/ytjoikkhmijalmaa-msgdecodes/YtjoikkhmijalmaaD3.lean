/- The walks over package msg: preps, lists of numbers, of requests, of preps read. (Laid by mk5r.py.) -/
import Derived.Test.YtjoikkhmijalmaaD2
set_option linter.unusedSimpArgs false
set_option linter.unusedVariables false
namespace Go.Proofs.Ytjoikkhmijalmaa
open Go.RowKit Oct

set_option maxHeartbeats 2000000 in
/-- prep. -/
theorem rprep_any (L : Nat) (w : World) (r : Nat) (bv : Value) (l : List Int) (p : Nat) (hS : RS L w r bv l p) :
    Calls Try.prog 58 #[.pointer (some ⟨r, 0, none⟩)] w (RPost cPrep (VA RPrep) L w r bv l p) := by
  obtain ⟨w0, hw0⟩ : ∃ w0, w0 = (w.alloc (.cells ([.int .i64 0, .int .i64 0, .int .i64 0, .int .i64 0, .int .i64 0, .slice none 0 0, .slice none 0 0, .slice none 0 0] : List Value).toArray 94)).alloc (.cells ([.int .i64 0, .int .i64 0, .int .i64 0, .int .i64 0, .int .i64 0, .slice none 0 0, .slice none 0 0, .slice none 0 0] : List Value).toArray 94) := ⟨_, rfl⟩
  have hr : Row w0 w.heap.size 94 [.int .i64 0, .int .i64 0, .int .i64 0, .int .i64 0, .int .i64 0, .slice none 0 0, .slice none 0 0, .slice none 0 0] := by rw [hw0]; exact row_alloc (Row.new w 94 [.int .i64 0, .int .i64 0, .int .i64 0, .int .i64 0, .int .i64 0, .slice none 0 0, .slice none 0 0, .slice none 0 0]) _
  have hv : Row w0 (w.heap.size + 1) 94 [.int .i64 0, .int .i64 0, .int .i64 0, .int .i64 0, .int .i64 0, .slice none 0 0, .slice none 0 0, .slice none 0 0] := by
    rw [hw0]
    have := Row.new (w.alloc (.cells ([.int .i64 0, .int .i64 0, .int .i64 0, .int .i64 0, .int .i64 0, .slice none 0 0, .slice none 0 0, .slice none 0 0] : List Value).toArray 94)) 94 [.int .i64 0, .int .i64 0, .int .i64 0, .int .i64 0, .int .i64 0, .slice none 0 0, .slice none 0 0, .slice none 0 0]
    simpa using this
  have hB : Below w.heap.size w w0 := by rw [hw0]; exact ((Below.refl _ w).alloc (Nat.le_refl _) _).alloc (by simp) _
  have hsz : w0.heap.size = w.heap.size + 2 := by rw [hw0]; simp
  have hG := grown_of_below hB (some r)
  have hS := hS.below hB
  have hLw := hS.hL
  have hrL := hS.hr
  have hLw0 : L ≤ w.heap.size := by have := ‹RS L w r bv l p›.hL; exact this
  have hne1 : (some r : Option Nat) ≠ some w.heap.size := fun e => by injection e with e; omega
  have hne2 : (some r : Option Nat) ≠ some (w.heap.size + 1) := fun e => by injection e with e; omega
  have hne3 : (some (w.heap.size + 1) : Option Nat) ≠ some w.heap.size := fun e => by injection e with e; omega
  have hC : w.heap.size + 2 ≤ w0.heap.size := by omega
  go_enter Try.func58, Try.ntmps58
  go_upto_region 2 with fail
  rw [← hw0]
  clear hw0 hsz
  have hv2 := hv
  go_wp2_with fail
  refine (rnum_any L _ r bv l _ hS).mono ?_
  rintro e wa0 ⟨hga0, ⟨hn, rfl⟩ | ⟨v0, a0, p0, hrd0, rfl, hR0, hS⟩⟩
  · go_wp2_with fail
    exact ⟨rfl, RPost.no (grown_trans hG hga0 (.inl rfl)) (by simp [cPrep, cP, hn])⟩
  have hG := grown_trans hG hga0 (.inl rfl)
  have hr := hr.grown hga0 hne1
  have hv2 := hv2.grown hga0 hne2
  have hC0 := hC
  have hC := Nat.le_trans hC hga0.size
  have hrd0 := (show Hid _ from hrd0)
  have hR0 : v0 = .int .i64 a0 := hR0
  subst hR0
  go_wp2_with (refine wl_set rfl _ _ _ rfl (w.heap.size + 1) 0 _ rfl rfl _ _ hv2 (show 0 < 8 by decide) (by kernel_rfl) rfl ?_; intro wb0 hv3 hgb0)
  have hv2 : Row wb0 (w.heap.size + 1) 94 [.int .i64 a0, .int .i64 0, .int .i64 0, .int .i64 0, .int .i64 0, .slice none 0 0, .slice none 0 0, .slice none 0 0] := hv3.out
  clear hv3
  have hG := grown_trans hG hgb0 (.inr fun k hk => by cases hk; omega)
  have hS := hS.grown hgb0 (by omega)
  have hC := Nat.le_trans hC hgb0.size
  have hr := hr.grown hgb0 hne3
  refine (rballot_any L _ r bv l _ hS).mono ?_
  rintro e wa1 ⟨hga1, ⟨hn, rfl⟩ | ⟨v1, a1, p1, hrd1, rfl, hR1, hS⟩⟩
  · go_wp2_with fail
    exact ⟨rfl, RPost.no (grown_trans hG hga1 (.inl rfl)) (by simp [cPrep, cP, hrd0.out, hn])⟩
  have hG := grown_trans hG hga1 (.inl rfl)
  have hr := hr.grown hga1 hne1
  have hv2 := hv2.grown hga1 hne2
  have hC1 := hC
  have hC := Nat.le_trans hC hga1.size
  have hrd1 := (show Hid _ from hrd1)
  obtain ⟨cs, rfl, hcs⟩ := hR1
  have hcs : cs = [.int .i64 a1.1, .int .i64 a1.2] := hcs
  subst hcs
  go_wp2_with (refine wl_put rfl _ _ _ rfl (w.heap.size + 1) 1 [.int .i64 a1.1, .int .i64 a1.2] rfl rfl _ _ hv2 (show 3 ≤ 8 by decide) (by kernel_rfl) one_bal ?_; intro wb1 hv3 hgb1)
  have hv2 : Row wb1 (w.heap.size + 1) 94 [.int .i64 a0, .int .i64 a1.1, .int .i64 a1.2, .int .i64 0, .int .i64 0, .slice none 0 0, .slice none 0 0, .slice none 0 0] := hv3.out
  clear hv3
  have hG := grown_trans hG hgb1 (.inr fun k hk => by cases hk; omega)
  have hS := hS.grown hgb1 (by omega)
  have hC := Nat.le_trans hC hgb1.size
  have hr := hr.grown hgb1 hne3
  refine (rrequest_any L _ r bv l _ hS).mono ?_
  rintro e wa2 ⟨hga2, ⟨hn, rfl⟩ | ⟨v2, a2, p2, hrd2, rfl, hR2, hS⟩⟩
  · go_wp2_with fail
    exact ⟨rfl, RPost.no (grown_trans hG hga2 (.inl rfl)) (by simp [cPrep, cP, hrd0.out, hrd1.out, hn])⟩
  have hG := grown_trans hG hga2 (.inl rfl)
  have hr := hr.grown hga2 hne1
  have hv2 := hv2.grown hga2 hne2
  have hC2 := hC
  have hC := Nat.le_trans hC hga2.size
  have hrd2 := (show Hid _ from hrd2)
  obtain ⟨cs, rfl, vo2, vg2, hcs, f2o, f2g⟩ := hR2
  subst hcs
  have f2o := f2o.mv (Mv.weak (L := w.heap.size + 2) hC2)
  have f2g := f2g.mv (Mv.weak (L := w.heap.size + 2) hC2)
  go_wp2_with (refine wl_put rfl _ _ _ rfl (w.heap.size + 1) 3 [.int .i64 a2.1, .int .i64 a2.2.1, vo2, vg2] rfl rfl _ _ hv2 (show 7 ≤ 8 by decide) (by kernel_rfl) (one_RReq (G := From (w.heap.size + 2)) (w := wa2) (x := a2) ⟨_, _, rfl, f2o, f2g⟩) ?_; intro wb2 hv3 hgb2)
  have hv2 : Row wb2 (w.heap.size + 1) 94 [.int .i64 a0, .int .i64 a1.1, .int .i64 a1.2, .int .i64 a2.1, .int .i64 a2.2.1, vo2, vg2, .slice none 0 0] := hv3.out
  clear hv3
  have hG := grown_trans hG hgb2 (.inr fun k hk => by cases hk; omega)
  have hS := hS.grown hgb2 (by omega)
  have hC := Nat.le_trans hC hgb2.size
  have hr := hr.grown hgb2 hne3
  have f2o := f2o.mv (Mv.from (L := w.heap.size + 2) hgb2 (by omega) (Nat.le_refl _))
  have f2g := f2g.mv (Mv.from (L := w.heap.size + 2) hgb2 (by omega) (Nat.le_refl _))
  refine (rvotes_any L _ r bv l _ hS).mono ?_
  rintro e wa3 ⟨hga3, ⟨hn, rfl⟩ | ⟨v3, a3, p3, hrd3, rfl, hR3, hS⟩⟩
  · go_wp2_with fail
    exact ⟨rfl, RPost.no (grown_trans hG hga3 (.inl rfl)) (by simp [cPrep, cP, hrd0.out, hrd1.out, hrd2.out, hn])⟩
  have hG := grown_trans hG hga3 (.inl rfl)
  have hr := hr.grown hga3 hne1
  have hv2 := hv2.grown hga3 hne2
  have hC3 := hC
  have hC := Nat.le_trans hC hga3.size
  have f2o := f2o.mv (Mv.from (L := w.heap.size + 2) hga3 (by omega) (Nat.le_refl _))
  have f2g := f2g.mv (Mv.from (L := w.heap.size + 2) hga3 (by omega) (Nat.le_refl _))
  have hrd3 := (show Hid _ from hrd3)
  have f3 := hR3.mv mov_vote (Nat.le_refl _) (Mv.weak (L := w.heap.size + 2) hC3)
  go_wp2_with (first
    | (refine wl_set rfl _ _ _ rfl (w.heap.size + 1) 7 _ rfl rfl _ _ hv2 (show 7 < 8 by decide) (by kernel_rfl) f3.one ?_; intro wb3 hv3 hgb3)
    | (refine wl_load rfl _ _ rfl (w.heap.size + 1) rfl _ _ hv3.out _ Try.underlying94 rfl (by kernel_rfl) ?_; have hr := hr.grown hgb3 hne3)
    | (refine wl_store rfl _ _ _ rfl w.heap.size [.int .i64 a0, .int .i64 a1.1, .int .i64 a1.2, .int .i64 a2.1, .int .i64 a2.2.1, vo2, vg2, v3] rfl rfl _ _ hr (by rfl) (by kernel_rfl) (by intro u hu; simp only [List.mem_cons, List.not_mem_nil, or_false] at hu; rcases hu with rfl | rfl | rfl | rfl | rfl | rfl | rfl | rfl <;> first | rfl | exact f2o.one | exact f2g.one | exact f3.one) ?_; intro wz hrz hgz))
  have hv2 : Row wb3 (w.heap.size + 1) 94 [.int .i64 a0, .int .i64 a1.1, .int .i64 a1.2, .int .i64 a2.1, .int .i64 a2.2.1, vo2, vg2, v3] := hv3.out
  clear hv3
  have hG := grown_trans hG hgb3 (.inr fun k hk => by cases hk; omega)
  have hS := hS.grown hgb3 (by omega)
  have hC := Nat.le_trans hC hgb3.size
  have f2o := f2o.mv (Mv.from (L := w.heap.size + 2) hgb3 (by omega) (Nat.le_refl _))
  have f2g := f2g.mv (Mv.from (L := w.heap.size + 2) hgb3 (by omega) (Nat.le_refl _))
  have f3 := f3.mv mov_vote hgb3.size (Mv.from (L := w.heap.size + 2) hgb3 (by omega) (Nat.le_refl _))
  have hG := grown_trans hG hgz (.inr fun k hk => by cases hk; omega)
  have hS := hS.grown hgz (by omega)
  have f2o := f2o.mv (Mv.from (L := w.heap.size + 2) hgz (by omega) (Nat.le_refl _))
  have f2g := f2g.mv (Mv.from (L := w.heap.size + 2) hgz (by omega) (Nat.le_refl _))
  have f3 := f3.mv mov_vote hgz.size (Mv.from (L := w.heap.size + 2) hgz (by omega) (Nat.le_refl _))
  have f2o := f2o.mv (Mv.weak (L := w.heap.size) (by omega))
  have f2g := f2g.mv (Mv.weak (L := w.heap.size) (by omega))
  have f3 := f3.mv mov_vote (Nat.le_refl _) (Mv.weak (L := w.heap.size) (by omega))
  have hrz := hrz.out
  refine bodyPost_ret (v := .agg ([.int .i64 a0, .int .i64 a1.1, .int .i64 a1.2, .int .i64 a2.1, .int .i64 a2.2.1, vo2, vg2, v3] : List Value).toArray) (results_cell_row rfl _ _ w.heap.size _ _ (0, 0) _ (by rfl) hrz Try.underlying94 rfl (by kernel_rfl)) rfl ?_
  exact ⟨hG, .inr ⟨_, (a0, a1, a2, a3), p3, by simp [cPrep, cP, hrd0.out, hrd1.out, hrd2.out, hrd3.out], rfl, ⟨_, rfl, ⟨_, _, _, rfl, f2o, f2g, f3⟩⟩, hS⟩⟩
theorem Try.inf_ints : (Try.prog.info? 3).map (fun i => (i.zero, i.size, i.bytes)) = some (some (.int .i64 0), 1, 8) := by kernel_rfl
set_option maxHeartbeats 2000000 in
/-- getList of Int. -/
theorem rints_any (L : Nat) (w : World) (r : Nat) (bv : Value) (l : List Int) (p : Nat) (hS : RS L w r bv l p) :
    Calls Try.prog 32 #[.pointer (some ⟨r, 0, none⟩), .func (.func 11) #[.pointer (some ⟨r, 0, none⟩)] #[]] w (RPost (cL cN) (RL RInt 1) L w r bv l p) := by
  have hLw := hS.hL
  have hrL := hS.hr
  have hbl := hS.rd.1.1
  go_enter Try.func32, Try.ntmps32
  go_wp2_with fail
  refine (rnum_any L _ r bv l _ hS).mono ?_
  rintro e w1 ⟨hg1, ⟨hn, rfl⟩ | ⟨v1, n, p1, hrd1, rfl, hR1, hS1⟩⟩
  · go_wp2_with fail
    exact ⟨rfl, RPost.no hg1 (by simp [cL, hn])⟩
  have hR1 : v1 = .int .i64 n := hR1
  subst hR1
  have hn0 : 0 ≤ n := (okI_bd (cN_law.bwd _ _ _ (hbl.drop p) hrd1).1).1
  obtain ⟨N, rfl⟩ := Int.eq_ofNat_of_zero_le hn0
  have HR1 := (show Hid (cN.rd (l.drop p) = some ((N : Int), l.drop p1)) from hrd1)
  clear hrd1 hn0 hS
  by_cases hN : (64 : Int) < (N : Int)
  · go_wp2_with fail
    exact ⟨rfl, RPost.no hg1 (by simp only [cL, HR1.out, Option.bind_some]; rw [if_pos hN])⟩
  go_wp2_with fail
  go_loopw [6, 13] (fun v i wr => ∃ (q pq : Nat) (ys : List Int), q ≤ N ∧ i = .int .i64 q ∧ ys.length = q ∧ Hid (rdN cN q (l.drop p1) = some (ys, l.drop pq)) ∧ LB RInt 3 1 w.heap.size wr v ys ∧ RS L wr r bv l pq ∧ w.grownBy wr (some r)) (fun _ i _ => N - (intOf i).toNat)
  case atStart => exact ⟨0, p1, [], by omega, rfl, rfl, rfl, LB.nil _ _ _ _ _, hS1, hg1⟩
  case round =>
    obtain ⟨q, pq, ys, hq, rfl, hyl, hrdq, hLB, hSr, hGr⟩ := hrel
    by_cases hqN : q < N
    · go_wp2_with fail
      refine (rnum_any L _ r bv l _ hSr).mono ?_
      rintro e w3 ⟨hg3, ⟨hn, rfl⟩ | ⟨v3, y, p3, hrd3, rfl, hR3, hS3⟩⟩
      · have HN := (show Hid ((cL cN).rd (l.drop p) = none) from list_gone (by omega) HR1.out hqN hrdq.out hn)
        clear hn
        go_wp2_with fail
        exact ⟨rfl, RPost.no (grown_trans hGr hg3 (.inl rfl)) HN.out⟩
      have HR3 := (show Hid (rdN cN (q + 1) (l.drop p1) = some (ys ++ [y], l.drop p3)) from by show _ = _; rw [rdN_snoc, hrdq.out]; simp [hrd3])
      clear hrd3
      have hR3 : v3 = .int .i64 y := hR3
      subst hR3
      have hRc : RInt (From wr.heap.size) w3 [.int .i64 y] y := rfl
      have hc1 : ∀ u ∈ [Value.int .i64 y], u.oneCell' = true := by intro u hu; simp at hu; subst hu; rfl
      have hcl : ([Value.int .i64 y]).length = 1 := rfl
      have hLB3 := hLB.grown mov_int hg3 (by omega)
      have hBs : w.heap.size ≤ wr.heap.size := hGr.size
      go_wp2_with (at_builtin; refine wl_push mov_int rfl _ _ _ rfl 3 1 8 _ Try.underlying29 Try.inf_ints rfl (by decide) w.heap.size u6 ys rfl hLB3 [.int .i64 y] y wr.heap.size hRc hcl hc1 hBs hLB.lt rfl (Nat.le_trans hBs hg3.size) (by rw [hyl]; omega) (by decide) ?_; intro v4 w4 hLB4 hg4)
      have hG4 := grown_trans (grown_trans hGr hg3 (.inl rfl)) hg4 (.inr fun k hk => hLB.fr k hk)
      have hS4 := RS.own hS3 hg4 (fun k hk => Nat.le_trans (by omega) (hLB.fr k hk))
      go_roundw
      case rel => exact ⟨q + 1, p3, ys ++ [y], by omega, by go_num, by simp [hyl], HR3, hLB4, hS4, hG4⟩
      case measure => simp [intOf]; omega
    · obtain rfl : q = N := by omega
      have HE := (show Hid ((cL cN).rd (l.drop p) = some (ys, l.drop pq)) from list_read (by omega) HR1.out hrdq.out)
      have hrl := hLB.rl mov_int
      have hvo := hLB.form
      go_wp2_with fail
      go_ret
      exact ⟨hGr, .inr ⟨_, ys, pq, HE.out, rfl, hrl, hSr⟩⟩
theorem Try.inf_reqs : (Try.prog.info? 27).map (fun i => (i.zero, i.size, i.bytes)) = some (some (.agg #[.int .i64 0, .int .i64 0, .slice none 0 0, .slice none 0 0]), 4, 64) := by kernel_rfl
set_option maxHeartbeats 2000000 in
/-- getList of PReq. -/
theorem rreqs_any (L : Nat) (w : World) (r : Nat) (bv : Value) (l : List Int) (p : Nat) (hS : RS L w r bv l p) :
    Calls Try.prog 33 #[.pointer (some ⟨r, 0, none⟩), .func (.func 28) #[.pointer (some ⟨r, 0, none⟩)] #[]] w (RPost (cL cReq) (RL RReq 4) L w r bv l p) := by
  have hLw := hS.hL
  have hrL := hS.hr
  have hbl := hS.rd.1.1
  go_enter Try.func33, Try.ntmps33
  go_wp2_with fail
  refine (rnum_any L _ r bv l _ hS).mono ?_
  rintro e w1 ⟨hg1, ⟨hn, rfl⟩ | ⟨v1, n, p1, hrd1, rfl, hR1, hS1⟩⟩
  · go_wp2_with fail
    exact ⟨rfl, RPost.no hg1 (by simp [cL, hn])⟩
  have hR1 : v1 = .int .i64 n := hR1
  subst hR1
  have hn0 : 0 ≤ n := (okI_bd (cN_law.bwd _ _ _ (hbl.drop p) hrd1).1).1
  obtain ⟨N, rfl⟩ := Int.eq_ofNat_of_zero_le hn0
  have HR1 := (show Hid (cN.rd (l.drop p) = some ((N : Int), l.drop p1)) from hrd1)
  clear hrd1 hn0 hS
  by_cases hN : (64 : Int) < (N : Int)
  · go_wp2_with fail
    exact ⟨rfl, RPost.no hg1 (by simp only [cL, HR1.out, Option.bind_some]; rw [if_pos hN])⟩
  go_wp2_with fail
  go_loopw [6, 13] (fun v i wr => ∃ (q pq : Nat) (ys : List PReq), q ≤ N ∧ i = .int .i64 q ∧ ys.length = q ∧ Hid (rdN cReq q (l.drop p1) = some (ys, l.drop pq)) ∧ LB RReq 27 4 w.heap.size wr v ys ∧ RS L wr r bv l pq ∧ w.grownBy wr (some r)) (fun _ i _ => N - (intOf i).toNat)
  case atStart => exact ⟨0, p1, [], by omega, rfl, rfl, rfl, LB.nil _ _ _ _ _, hS1, hg1⟩
  case round =>
    obtain ⟨q, pq, ys, hq, rfl, hyl, hrdq, hLB, hSr, hGr⟩ := hrel
    by_cases hqN : q < N
    · go_wp2_with fail
      refine (rrequest_any L _ r bv l _ hSr).mono ?_
      rintro e w3 ⟨hg3, ⟨hn, rfl⟩ | ⟨v3, y, p3, hrd3, rfl, hR3, hS3⟩⟩
      · have HN := (show Hid ((cL cReq).rd (l.drop p) = none) from list_gone (by omega) HR1.out hqN hrdq.out hn)
        clear hn
        go_wp2_with fail
        exact ⟨rfl, RPost.no (grown_trans hGr hg3 (.inl rfl)) HN.out⟩
      have HR3 := (show Hid (rdN cReq (q + 1) (l.drop p1) = some (ys ++ [y], l.drop p3)) from by show _ = _; rw [rdN_snoc, hrdq.out]; simp [hrd3])
      clear hrd3
      obtain ⟨cs, rfl, hRc⟩ := hR3
      have hc1 := one_RReq hRc
      have hcl : cs.length = 4 := len_RReq hRc
      have hRd := hRc
      obtain ⟨vo, vg, rfl, _, _⟩ := hRd
      have hLB3 := hLB.grown mov_req hg3 (by omega)
      have hBs : w.heap.size ≤ wr.heap.size := hGr.size
      go_wp2_with (at_builtin; refine wl_push mov_req rfl _ _ _ rfl 27 4 64 _ Try.underlying30 Try.inf_reqs rfl (by decide) w.heap.size u6 ys rfl hLB3 [.int .i64 y.1, .int .i64 y.2.1, vo, vg] y wr.heap.size hRc hcl hc1 hBs hLB.lt rfl (Nat.le_trans hBs hg3.size) (by rw [hyl]; omega) (by decide) ?_; intro v4 w4 hLB4 hg4)
      have hG4 := grown_trans (grown_trans hGr hg3 (.inl rfl)) hg4 (.inr fun k hk => hLB.fr k hk)
      have hS4 := RS.own hS3 hg4 (fun k hk => Nat.le_trans (by omega) (hLB.fr k hk))
      go_roundw
      case rel => exact ⟨q + 1, p3, ys ++ [y], by omega, by go_num, by simp [hyl], HR3, hLB4, hS4, hG4⟩
      case measure => simp [intOf]; omega
    · obtain rfl : q = N := by omega
      have HE := (show Hid ((cL cReq).rd (l.drop p) = some (ys, l.drop pq)) from list_read (by omega) HR1.out hrdq.out)
      have hrl := hLB.rl mov_req
      have hvo := hLB.form
      go_wp2_with fail
      go_ret
      exact ⟨hGr, .inr ⟨_, ys, pq, HE.out, rfl, hrl, hSr⟩⟩
theorem Try.inf_preps : (Try.prog.info? 94).map (fun i => (i.zero, i.size, i.bytes)) = some (some (.agg #[.int .i64 0, .int .i64 0, .int .i64 0, .int .i64 0, .int .i64 0, .slice none 0 0, .slice none 0 0, .slice none 0 0]), 8, 112) := by kernel_rfl
set_option maxHeartbeats 2000000 in
/-- getList of PPrep. -/
theorem rpreps_any (L : Nat) (w : World) (r : Nat) (bv : Value) (l : List Int) (p : Nat) (hS : RS L w r bv l p) :
    Calls Try.prog 57 #[.pointer (some ⟨r, 0, none⟩), .func (.func 58) #[.pointer (some ⟨r, 0, none⟩)] #[]] w (RPost (cL cPrep) (RL RPrep 8) L w r bv l p) := by
  have hLw := hS.hL
  have hrL := hS.hr
  have hbl := hS.rd.1.1
  go_enter Try.func57, Try.ntmps57
  go_wp2_with fail
  refine (rnum_any L _ r bv l _ hS).mono ?_
  rintro e w1 ⟨hg1, ⟨hn, rfl⟩ | ⟨v1, n, p1, hrd1, rfl, hR1, hS1⟩⟩
  · go_wp2_with fail
    exact ⟨rfl, RPost.no hg1 (by simp [cL, hn])⟩
  have hR1 : v1 = .int .i64 n := hR1
  subst hR1
  have hn0 : 0 ≤ n := (okI_bd (cN_law.bwd _ _ _ (hbl.drop p) hrd1).1).1
  obtain ⟨N, rfl⟩ := Int.eq_ofNat_of_zero_le hn0
  have HR1 := (show Hid (cN.rd (l.drop p) = some ((N : Int), l.drop p1)) from hrd1)
  clear hrd1 hn0 hS
  by_cases hN : (64 : Int) < (N : Int)
  · go_wp2_with fail
    exact ⟨rfl, RPost.no hg1 (by simp only [cL, HR1.out, Option.bind_some]; rw [if_pos hN])⟩
  go_wp2_with fail
  go_loopw [6, 13] (fun v i wr => ∃ (q pq : Nat) (ys : List PPrep), q ≤ N ∧ i = .int .i64 q ∧ ys.length = q ∧ Hid (rdN cPrep q (l.drop p1) = some (ys, l.drop pq)) ∧ LB RPrep 94 8 w.heap.size wr v ys ∧ RS L wr r bv l pq ∧ w.grownBy wr (some r)) (fun _ i _ => N - (intOf i).toNat)
  case atStart => exact ⟨0, p1, [], by omega, rfl, rfl, rfl, LB.nil _ _ _ _ _, hS1, hg1⟩
  case round =>
    obtain ⟨q, pq, ys, hq, rfl, hyl, hrdq, hLB, hSr, hGr⟩ := hrel
    by_cases hqN : q < N
    · go_wp2_with fail
      refine (rprep_any L _ r bv l _ hSr).mono ?_
      rintro e w3 ⟨hg3, ⟨hn, rfl⟩ | ⟨v3, y, p3, hrd3, rfl, hR3, hS3⟩⟩
      · have HN := (show Hid ((cL cPrep).rd (l.drop p) = none) from list_gone (by omega) HR1.out hqN hrdq.out hn)
        clear hn
        go_wp2_with fail
        exact ⟨rfl, RPost.no (grown_trans hGr hg3 (.inl rfl)) HN.out⟩
      have HR3 := (show Hid (rdN cPrep (q + 1) (l.drop p1) = some (ys ++ [y], l.drop p3)) from by show _ = _; rw [rdN_snoc, hrdq.out]; simp [hrd3])
      clear hrd3
      obtain ⟨cs, rfl, hRc⟩ := hR3
      have hc1 := one_RPrep hRc
      have hcl : cs.length = 8 := len_RPrep hRc
      have hRd := hRc
      obtain ⟨vo, vg, vc, rfl, _, _, _⟩ := hRd
      have hLB3 := hLB.grown mov_prep hg3 (by omega)
      have hBs : w.heap.size ≤ wr.heap.size := hGr.size
      go_wp2_with (at_builtin; refine wl_push mov_prep rfl _ _ _ rfl 94 8 112 _ Try.underlying63 Try.inf_preps rfl (by decide) w.heap.size u6 ys rfl hLB3 [.int .i64 y.1, .int .i64 y.2.1.1, .int .i64 y.2.1.2, .int .i64 y.2.2.1.1, .int .i64 y.2.2.1.2.1, vo, vg, vc] y wr.heap.size hRc hcl hc1 hBs hLB.lt rfl (Nat.le_trans hBs hg3.size) (by rw [hyl]; omega) (by decide) ?_; intro v4 w4 hLB4 hg4)
      have hG4 := grown_trans (grown_trans hGr hg3 (.inl rfl)) hg4 (.inr fun k hk => hLB.fr k hk)
      have hS4 := RS.own hS3 hg4 (fun k hk => Nat.le_trans (by omega) (hLB.fr k hk))
      go_roundw
      case rel => exact ⟨q + 1, p3, ys ++ [y], by omega, by go_num, by simp [hyl], HR3, hLB4, hS4, hG4⟩
      case measure => simp [intOf]; omega
    · obtain rfl : q = N := by omega
      have HE := (show Hid ((cL cPrep).rd (l.drop p) = some (ys, l.drop pq)) from list_read (by omega) HR1.out hrdq.out)
      have hrl := hLB.rl mov_prep
      have hvo := hLB.form
      go_wp2_with fail
      go_ret
      exact ⟨hGr, .inr ⟨_, ys, pq, HE.out, rfl, hrl, hSr⟩⟩
end Go.Proofs.Ytjoikkhmijalmaa
