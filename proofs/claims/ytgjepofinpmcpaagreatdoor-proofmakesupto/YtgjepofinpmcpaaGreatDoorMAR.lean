/- The walks over package msg: reports read. (Laid by mk5r.py.) -/
import Derived.Test.YtgjepofinpmcpaaGreatDoorMAN
set_option linter.unusedSimpArgs false
set_option linter.unusedVariables false
namespace Go.Proofs.YtgjepofinpmcpaaGreatDoor
section
open Go.RowKit Oct
set_option maxHeartbeats 2000000 in
theorem zU9 (L : Nat) (w : World) (r : Nat) (bv : Value) (l : List Int) (p : Nat) (hS : RS L w r bv l p) :
    Calls Tryz.prog 113 #[.pointer (some ⟨r, 0, none⟩)] w (zBd zAo (VA zBy) L w r bv l p) := by
  obtain ⟨w0, hw0⟩ : ∃ w0, w0 = (w.alloc (.cells ([.int .i64 0, .int .i64 0, .int .i64 0, .int .i64 0, .int .i64 0, .slice none 0 0, .slice none 0 0, .slice none 0 0] : List Value).toArray 107)).alloc (.cells ([.int .i64 0, .int .i64 0, .int .i64 0, .int .i64 0, .int .i64 0, .slice none 0 0, .slice none 0 0, .slice none 0 0] : List Value).toArray 107) := ⟨_, rfl⟩
  have hr : Row w0 w.heap.size 107 [.int .i64 0, .int .i64 0, .int .i64 0, .int .i64 0, .int .i64 0, .slice none 0 0, .slice none 0 0, .slice none 0 0] := by rw [hw0]; exact zA4 (Row.new w 107 [.int .i64 0, .int .i64 0, .int .i64 0, .int .i64 0, .int .i64 0, .slice none 0 0, .slice none 0 0, .slice none 0 0]) _
  have hv : Row w0 (w.heap.size + 1) 107 [.int .i64 0, .int .i64 0, .int .i64 0, .int .i64 0, .int .i64 0, .slice none 0 0, .slice none 0 0, .slice none 0 0] := by
    rw [hw0]
    have := Row.new (w.alloc (.cells ([.int .i64 0, .int .i64 0, .int .i64 0, .int .i64 0, .int .i64 0, .slice none 0 0, .slice none 0 0, .slice none 0 0] : List Value).toArray 107)) 107 [.int .i64 0, .int .i64 0, .int .i64 0, .int .i64 0, .int .i64 0, .slice none 0 0, .slice none 0 0, .slice none 0 0]
    simpa using this
  have hB : Below w.heap.size w w0 := by rw [hw0]; exact ((Below.refl _ w).alloc zN _).alloc (by simp) _
  have hsz : w0.heap.size = w.heap.size + 2 := by rw [hw0]; simp
  have hG := zA8 hB (some r)
  have hS := hS.below hB
  have hLw := hS.hL
  have hrL := hS.hr
  have hLw0 : L ≤ w.heap.size := by have := ‹RS L w r bv l p›.hL; exact this
  have hne1 : (some r : Option Nat) ≠ some w.heap.size := fun e => by injection e with e; omega
  have hne2 : (some r : Option Nat) ≠ some (w.heap.size + 1) := fun e => by injection e with e; omega
  have hne3 : (some (w.heap.size + 1) : Option Nat) ≠ some w.heap.size := fun e => by injection e with e; omega
  have hC : w.heap.size + 2 ≤ w0.heap.size := by omega
  go_enter Tryz.func113, Tryz.ntmps113
  go_upto_region 2 with fail
  rw [← hw0]
  clear hw0 hsz
  have hv2 := hv
  go_wp2_with fail
  refine (zB9 L _ r bv l _ hS).mono ?_
  rintro e wa0 ⟨hga0, ⟨hn, rfl⟩ | ⟨v0, a0, p0, hrd0, rfl, hR0, hS⟩⟩
  · go_wp2_with fail
    exact ⟨rfl, zBd.no (zA2 hG hga0 (.inl rfl)) (by simp [zAo, cP, hn])⟩
  have hG := zA2 hG hga0 (.inl rfl)
  have hr := hr.grown hga0 hne1
  have hv2 := hv2.grown hga0 hne2
  have hC0 := hC
  have hC := Nat.le_trans hC hga0.size
  have hrd0 := (show Hid _ from hrd0)
  have hR0 : v0 = .int .i64 a0 := hR0
  subst hR0
  go_wp2_with (refine zAb rfl _ _ _ rfl (w.heap.size + 1) 0 _ rfl rfl _ _ hv2 (show 0 < 8 by decide) (by kernel_rfl) rfl ?_; intro wb0 hv3 hgb0)
  have hv2 : Row wb0 (w.heap.size + 1) 107 [.int .i64 a0, .int .i64 0, .int .i64 0, .int .i64 0, .int .i64 0, .slice none 0 0, .slice none 0 0, .slice none 0 0] := hv3.out
  clear hv3
  have hG := zA2 hG hgb0 (.inr fun k hk => by cases hk; omega)
  have hS := hS.grown hgb0 (by omega)
  have hC := Nat.le_trans hC hgb0.size
  have hr := hr.grown hgb0 hne3
  refine (zFo L _ r bv l _ hS).mono ?_
  rintro e wa1 ⟨hga1, ⟨hn, rfl⟩ | ⟨v1, a1, p1, hrd1, rfl, hR1, hS⟩⟩
  · go_wp2_with fail
    exact ⟨rfl, zBd.no (zA2 hG hga1 (.inl rfl)) (by simp [zAo, cP, hrd0.out, hn])⟩
  have hG := zA2 hG hga1 (.inl rfl)
  have hr := hr.grown hga1 hne1
  have hv2 := hv2.grown hga1 hne2
  have hC1 := hC
  have hC := Nat.le_trans hC hga1.size
  have hrd1 := (show Hid _ from hrd1)
  obtain ⟨cs, rfl, hcs⟩ := hR1
  have hcs : cs = [.int .i64 a1.1, .int .i64 a1.2] := hcs
  subst hcs
  go_wp2_with (refine zCd rfl _ _ _ rfl (w.heap.size + 1) 1 [.int .i64 a1.1, .int .i64 a1.2] rfl rfl _ _ hv2 (show 3 ≤ 8 by decide) (by kernel_rfl) zNk ?_; intro wb1 hv3 hgb1)
  have hv2 : Row wb1 (w.heap.size + 1) 107 [.int .i64 a0, .int .i64 a1.1, .int .i64 a1.2, .int .i64 0, .int .i64 0, .slice none 0 0, .slice none 0 0, .slice none 0 0] := hv3.out
  clear hv3
  have hG := zA2 hG hgb1 (.inr fun k hk => by cases hk; omega)
  have hS := hS.grown hgb1 (by omega)
  have hC := Nat.le_trans hC hgb1.size
  have hr := hr.grown hgb1 hne3
  refine (zDd L _ r bv l _ hS).mono ?_
  rintro e wa2 ⟨hga2, ⟨hn, rfl⟩ | ⟨v2, a2, p2, hrd2, rfl, hR2, hS⟩⟩
  · go_wp2_with fail
    exact ⟨rfl, zBd.no (zA2 hG hga2 (.inl rfl)) (by simp [zAo, cP, hrd0.out, hrd1.out, hn])⟩
  have hG := zA2 hG hga2 (.inl rfl)
  have hr := hr.grown hga2 hne1
  have hv2 := hv2.grown hga2 hne2
  have hC2 := hC
  have hC := Nat.le_trans hC hga2.size
  have hrd2 := (show Hid _ from hrd2)
  obtain ⟨cs, rfl, vo2, vg2, hcs, f2o, f2g⟩ := hR2
  subst hcs
  have f2o := f2o.mv (Mv.weak (L := w.heap.size + 2) hC2)
  have f2g := f2g.mv (Mv.weak (L := w.heap.size + 2) hC2)
  go_wp2_with (refine zCd rfl _ _ _ rfl (w.heap.size + 1) 3 [.int .i64 a2.1, .int .i64 a2.2.1, vo2, vg2] rfl rfl _ _ hv2 (show 7 ≤ 8 by decide) (by kernel_rfl) (zBq (G := zB0 (w.heap.size + 2)) (w := wa2) (x := a2) ⟨_, _, rfl, f2o, f2g⟩) ?_; intro wb2 hv3 hgb2)
  have hv2 : Row wb2 (w.heap.size + 1) 107 [.int .i64 a0, .int .i64 a1.1, .int .i64 a1.2, .int .i64 a2.1, .int .i64 a2.2.1, vo2, vg2, .slice none 0 0] := hv3.out
  clear hv3
  have hG := zA2 hG hgb2 (.inr fun k hk => by cases hk; omega)
  have hS := hS.grown hgb2 (by omega)
  have hC := Nat.le_trans hC hgb2.size
  have hr := hr.grown hgb2 hne3
  have f2o := f2o.mv (Mv.from (L := w.heap.size + 2) hgb2 (by omega) zN)
  have f2g := f2g.mv (Mv.from (L := w.heap.size + 2) hgb2 (by omega) zN)
  refine (zEt L _ r bv l _ hS).mono ?_
  rintro e wa3 ⟨hga3, ⟨hn, rfl⟩ | ⟨v3, a3, p3, hrd3, rfl, hR3, hS⟩⟩
  · go_wp2_with fail
    exact ⟨rfl, zBd.no (zA2 hG hga3 (.inl rfl)) (by simp [zAo, cP, hrd0.out, hrd1.out, hrd2.out, hn])⟩
  have hG := zA2 hG hga3 (.inl rfl)
  have hr := hr.grown hga3 hne1
  have hv2 := hv2.grown hga3 hne2
  have hC3 := hC
  have hC := Nat.le_trans hC hga3.size
  have f2o := f2o.mv (Mv.from (L := w.heap.size + 2) hga3 (by omega) zN)
  have f2g := f2g.mv (Mv.from (L := w.heap.size + 2) hga3 (by omega) zN)
  have hrd3 := (show Hid _ from hrd3)
  have f3 := hR3.mv zA9 zN (Mv.weak (L := w.heap.size + 2) hC3)
  go_wp2_with (first
    | (refine zAb rfl _ _ _ rfl (w.heap.size + 1) 7 _ rfl rfl _ _ hv2 (show 7 < 8 by decide) (by kernel_rfl) f3.one ?_; intro wb3 hv3 hgb3)
    | (refine zAa rfl _ _ rfl (w.heap.size + 1) rfl _ _ hv3.out _ Tryz.underlying107 rfl (by kernel_rfl) ?_; have hr := hr.grown hgb3 hne3)
    | (refine zA7 rfl _ _ _ rfl w.heap.size [.int .i64 a0, .int .i64 a1.1, .int .i64 a1.2, .int .i64 a2.1, .int .i64 a2.2.1, vo2, vg2, v3] rfl rfl _ _ hr (by rfl) (by kernel_rfl) (by intro u hu; simp only [List.mem_cons, List.not_mem_nil, or_false] at hu; rcases hu with rfl | rfl | rfl | rfl | rfl | rfl | rfl | rfl <;> first | rfl | exact f2o.one | exact f2g.one | exact f3.one) ?_; intro wz hrz hgz))
  have hv2 : Row wb3 (w.heap.size + 1) 107 [.int .i64 a0, .int .i64 a1.1, .int .i64 a1.2, .int .i64 a2.1, .int .i64 a2.2.1, vo2, vg2, v3] := hv3.out
  clear hv3
  have hG := zA2 hG hgb3 (.inr fun k hk => by cases hk; omega)
  have hS := hS.grown hgb3 (by omega)
  have hC := Nat.le_trans hC hgb3.size
  have f2o := f2o.mv (Mv.from (L := w.heap.size + 2) hgb3 (by omega) zN)
  have f2g := f2g.mv (Mv.from (L := w.heap.size + 2) hgb3 (by omega) zN)
  have f3 := f3.mv zA9 hgb3.size (Mv.from (L := w.heap.size + 2) hgb3 (by omega) zN)
  have hG := zA2 hG hgz (.inr fun k hk => by cases hk; omega)
  have hS := hS.grown hgz (by omega)
  have f2o := f2o.mv (Mv.from (L := w.heap.size + 2) hgz (by omega) zN)
  have f2g := f2g.mv (Mv.from (L := w.heap.size + 2) hgz (by omega) zN)
  have f3 := f3.mv zA9 hgz.size (Mv.from (L := w.heap.size + 2) hgz (by omega) zN)
  have f2o := f2o.mv (Mv.weak (L := w.heap.size) (by omega))
  have f2g := f2g.mv (Mv.weak (L := w.heap.size) (by omega))
  have f3 := f3.mv zA9 zN (Mv.weak (L := w.heap.size) (by omega))
  have hrz := hrz.out
  refine bodyPost_ret (v := .agg ([.int .i64 a0, .int .i64 a1.1, .int .i64 a1.2, .int .i64 a2.1, .int .i64 a2.2.1, vo2, vg2, v3] : List Value).toArray) (results_cell_row rfl _ _ w.heap.size _ _ (0, 0) _ (by rfl) hrz Tryz.underlying107 rfl (by kernel_rfl)) rfl ?_
  exact ⟨hG, .inr ⟨_, (a0, a1, a2, a3), p3, by simp [zAo, cP, hrd0.out, hrd1.out, hrd2.out, hrd3.out], rfl, ⟨_, rfl, ⟨_, _, _, rfl, f2o, f2g, f3⟩⟩, hS⟩⟩
theorem Tryz.inf_ints : (Tryz.prog.info? 3).map (fun i => (i.zero, i.size, i.bytes)) = some (some (.int .i64 0), 1, 8) := by kernel_rfl
set_option maxHeartbeats 2000000 in
theorem zSw (L : Nat) (w : World) (r : Nat) (bv : Value) (l : List Int) (p : Nat) (hS : RS L w r bv l p) :
    Calls Tryz.prog 71 #[.pointer (some ⟨r, 0, none⟩), .func (.func 35) #[.pointer (some ⟨r, 0, none⟩)] #[]] w (zBd (cL cN) (RL zG2 1) L w r bv l p) := by
  have hLw := hS.hL
  have hrL := hS.hr
  have hbl := hS.rd.1.1
  go_enter Tryz.func71, Tryz.ntmps71
  go_wp2_with fail
  refine (zB9 L _ r bv l _ hS).mono ?_
  rintro e w1 ⟨hg1, ⟨hn, rfl⟩ | ⟨v1, n, p1, hrd1, rfl, hR1, hS1⟩⟩
  · go_wp2_with fail
    exact ⟨rfl, zBd.no hg1 (by simp [cL, hn])⟩
  have hR1 : v1 = .int .i64 n := hR1
  subst hR1
  have hn0 : 0 ≤ n := (zGc (zBt.bwd _ _ _ (hbl.drop p) hrd1).1).1
  obtain ⟨N, rfl⟩ := Int.eq_ofNat_of_zero_le hn0
  have HR1 := (show Hid (cN.rd (l.drop p) = some ((N : Int), l.drop p1)) from hrd1)
  clear hrd1 hn0 hS
  by_cases hN : (64 : Int) < (N : Int)
  · go_wp2_with fail
    exact ⟨rfl, zBd.no hg1 (by simp only [cL, HR1.out, Option.bind_some]; rw [if_pos hN])⟩
  go_wp2_with fail
  go_loopw [6, 13] (fun v i wr => ∃ (q pq : Nat) (ys : List Int), q ≤ N ∧ i = .int .i64 q ∧ ys.length = q ∧ Hid (rdN cN q (l.drop p1) = some (ys, l.drop pq)) ∧ LB zG2 3 1 w.heap.size wr v ys ∧ RS L wr r bv l pq ∧ w.grownBy wr (some r)) (fun _ i _ => N - (intOf i).toNat)
  case atStart => exact ⟨0, p1, [], by omega, rfl, rfl, rfl, LB.nil _ _ _ _ _, hS1, hg1⟩
  case round =>
    obtain ⟨q, pq, ys, hq, rfl, hyl, hrdq, hLB, hSr, hGr⟩ := hrel
    by_cases hqN : q < N
    · go_wp2_with fail
      refine (zB9 L _ r bv l _ hSr).mono ?_
      rintro e w3 ⟨hg3, ⟨hn, rfl⟩ | ⟨v3, y, p3, hrd3, rfl, hR3, hS3⟩⟩
      · have HN := (show Hid ((cL cN).rd (l.drop p) = none) from zEd (by omega) HR1.out hqN hrdq.out hn)
        clear hn
        go_wp2_with fail
        exact ⟨rfl, zBd.no (zA2 hGr hg3 (.inl rfl)) HN.out⟩
      have HR3 := (show Hid (rdN cN (q + 1) (l.drop p1) = some (ys ++ [y], l.drop p3)) from by show _ = _; rw [zCt, hrdq.out]; simp [hrd3])
      clear hrd3
      have hR3 : v3 = .int .i64 y := hR3
      subst hR3
      have hRc : zG2 (zB0 wr.heap.size) w3 [.int .i64 y] y := rfl
      have hc1 : ∀ u ∈ [Value.int .i64 y], u.oneCell' = true := by intro u hu; simp at hu; subst hu; rfl
      have hcl : ([Value.int .i64 y]).length = 1 := rfl
      have hLB3 := hLB.grown zAl hg3 (by omega)
      have hBs : w.heap.size ≤ wr.heap.size := hGr.size
      go_wp2_with (at_builtin; refine zCq zAl rfl _ _ _ rfl 3 1 8 _ Tryz.underlying36 Tryz.inf_ints rfl (by decide) w.heap.size u6 ys rfl hLB3 [.int .i64 y] y wr.heap.size hRc hcl hc1 hBs hLB.lt rfl (Nat.le_trans hBs hg3.size) (by rw [hyl]; omega) (by decide) ?_; intro v4 w4 hLB4 hg4)
      have hG4 := zA2 (zA2 hGr hg3 (.inl rfl)) hg4 (.inr fun k hk => hLB.fr k hk)
      have hS4 := RS.own hS3 hg4 (fun k hk => Nat.le_trans (by omega) (hLB.fr k hk))
      go_roundw
      case rel => exact ⟨q + 1, p3, ys ++ [y], by omega, by go_num, by simp [hyl], HR3, hLB4, hS4, hG4⟩
      case measure => simp [intOf]; omega
    · obtain rfl : q = N := by omega
      have HE := (show Hid ((cL cN).rd (l.drop p) = some (ys, l.drop pq)) from zE9 (by omega) HR1.out hrdq.out)
      have hrl := hLB.rl zAl
      have hvo := hLB.form
      go_wp2_with fail
      go_ret
      exact ⟨hGr, .inr ⟨_, ys, pq, HE.out, rfl, hrl, hSr⟩⟩
theorem Tryz.inf_reqs : (Tryz.prog.info? 34).map (fun i => (i.zero, i.size, i.bytes)) = some (some (.agg #[.int .i64 0, .int .i64 0, .slice none 0 0, .slice none 0 0]), 4, 64) := by kernel_rfl
set_option maxHeartbeats 2000000 in
theorem zUw (L : Nat) (w : World) (r : Nat) (bv : Value) (l : List Int) (p : Nat) (hS : RS L w r bv l p) :
    Calls Tryz.prog 72 #[.pointer (some ⟨r, 0, none⟩), .func (.func 67) #[.pointer (some ⟨r, 0, none⟩)] #[]] w (zBd (cL zBc) (RL zCs 4) L w r bv l p) := by
  have hLw := hS.hL
  have hrL := hS.hr
  have hbl := hS.rd.1.1
  go_enter Tryz.func72, Tryz.ntmps72
  go_wp2_with fail
  refine (zB9 L _ r bv l _ hS).mono ?_
  rintro e w1 ⟨hg1, ⟨hn, rfl⟩ | ⟨v1, n, p1, hrd1, rfl, hR1, hS1⟩⟩
  · go_wp2_with fail
    exact ⟨rfl, zBd.no hg1 (by simp [cL, hn])⟩
  have hR1 : v1 = .int .i64 n := hR1
  subst hR1
  have hn0 : 0 ≤ n := (zGc (zBt.bwd _ _ _ (hbl.drop p) hrd1).1).1
  obtain ⟨N, rfl⟩ := Int.eq_ofNat_of_zero_le hn0
  have HR1 := (show Hid (cN.rd (l.drop p) = some ((N : Int), l.drop p1)) from hrd1)
  clear hrd1 hn0 hS
  by_cases hN : (64 : Int) < (N : Int)
  · go_wp2_with fail
    exact ⟨rfl, zBd.no hg1 (by simp only [cL, HR1.out, Option.bind_some]; rw [if_pos hN])⟩
  go_wp2_with fail
  go_loopw [6, 13] (fun v i wr => ∃ (q pq : Nat) (ys : List zB3), q ≤ N ∧ i = .int .i64 q ∧ ys.length = q ∧ Hid (rdN zBc q (l.drop p1) = some (ys, l.drop pq)) ∧ LB zCs 34 4 w.heap.size wr v ys ∧ RS L wr r bv l pq ∧ w.grownBy wr (some r)) (fun _ i _ => N - (intOf i).toNat)
  case atStart => exact ⟨0, p1, [], by omega, rfl, rfl, rfl, LB.nil _ _ _ _ _, hS1, hg1⟩
  case round =>
    obtain ⟨q, pq, ys, hq, rfl, hyl, hrdq, hLB, hSr, hGr⟩ := hrel
    by_cases hqN : q < N
    · go_wp2_with fail
      refine (zDd L _ r bv l _ hSr).mono ?_
      rintro e w3 ⟨hg3, ⟨hn, rfl⟩ | ⟨v3, y, p3, hrd3, rfl, hR3, hS3⟩⟩
      · have HN := (show Hid ((cL zBc).rd (l.drop p) = none) from zEd (by omega) HR1.out hqN hrdq.out hn)
        clear hn
        go_wp2_with fail
        exact ⟨rfl, zBd.no (zA2 hGr hg3 (.inl rfl)) HN.out⟩
      have HR3 := (show Hid (rdN zBc (q + 1) (l.drop p1) = some (ys ++ [y], l.drop p3)) from by show _ = _; rw [zCt, hrdq.out]; simp [hrd3])
      clear hrd3
      obtain ⟨cs, rfl, hRc⟩ := hR3
      have hc1 := zBq hRc
      have hcl : cs.length = 4 := zKu hRc
      have hRd := hRc
      obtain ⟨vo, vg, rfl, _, _⟩ := hRd
      have hLB3 := hLB.grown zAj hg3 (by omega)
      have hBs : w.heap.size ≤ wr.heap.size := hGr.size
      go_wp2_with (at_builtin; refine zCq zAj rfl _ _ _ rfl 34 4 64 _ Tryz.underlying37 Tryz.inf_reqs rfl (by decide) w.heap.size u6 ys rfl hLB3 [.int .i64 y.1, .int .i64 y.2.1, vo, vg] y wr.heap.size hRc hcl hc1 hBs hLB.lt rfl (Nat.le_trans hBs hg3.size) (by rw [hyl]; omega) (by decide) ?_; intro v4 w4 hLB4 hg4)
      have hG4 := zA2 (zA2 hGr hg3 (.inl rfl)) hg4 (.inr fun k hk => hLB.fr k hk)
      have hS4 := RS.own hS3 hg4 (fun k hk => Nat.le_trans (by omega) (hLB.fr k hk))
      go_roundw
      case rel => exact ⟨q + 1, p3, ys ++ [y], by omega, by go_num, by simp [hyl], HR3, hLB4, hS4, hG4⟩
      case measure => simp [intOf]; omega
    · obtain rfl : q = N := by omega
      have HE := (show Hid ((cL zBc).rd (l.drop p) = some (ys, l.drop pq)) from zE9 (by omega) HR1.out hrdq.out)
      have hrl := hLB.rl zAj
      have hvo := hLB.form
      go_wp2_with fail
      go_ret
      exact ⟨hGr, .inr ⟨_, ys, pq, HE.out, rfl, hrl, hSr⟩⟩
theorem Tryz.inf_preps : (Tryz.prog.info? 107).map (fun i => (i.zero, i.size, i.bytes)) = some (some (.agg #[.int .i64 0, .int .i64 0, .int .i64 0, .int .i64 0, .int .i64 0, .slice none 0 0, .slice none 0 0, .slice none 0 0]), 8, 112) := by kernel_rfl
set_option maxHeartbeats 2000000 in
theorem zQ3 (L : Nat) (w : World) (r : Nat) (bv : Value) (l : List Int) (p : Nat) (hS : RS L w r bv l p) :
    Calls Tryz.prog 112 #[.pointer (some ⟨r, 0, none⟩), .func (.func 113) #[.pointer (some ⟨r, 0, none⟩)] #[]] w (zBd (cL zAo) (RL zBy 8) L w r bv l p) := by
  have hLw := hS.hL
  have hrL := hS.hr
  have hbl := hS.rd.1.1
  go_enter Tryz.func112, Tryz.ntmps112
  go_wp2_with fail
  refine (zB9 L _ r bv l _ hS).mono ?_
  rintro e w1 ⟨hg1, ⟨hn, rfl⟩ | ⟨v1, n, p1, hrd1, rfl, hR1, hS1⟩⟩
  · go_wp2_with fail
    exact ⟨rfl, zBd.no hg1 (by simp [cL, hn])⟩
  have hR1 : v1 = .int .i64 n := hR1
  subst hR1
  have hn0 : 0 ≤ n := (zGc (zBt.bwd _ _ _ (hbl.drop p) hrd1).1).1
  obtain ⟨N, rfl⟩ := Int.eq_ofNat_of_zero_le hn0
  have HR1 := (show Hid (cN.rd (l.drop p) = some ((N : Int), l.drop p1)) from hrd1)
  clear hrd1 hn0 hS
  by_cases hN : (64 : Int) < (N : Int)
  · go_wp2_with fail
    exact ⟨rfl, zBd.no hg1 (by simp only [cL, HR1.out, Option.bind_some]; rw [if_pos hN])⟩
  go_wp2_with fail
  go_loopw [6, 13] (fun v i wr => ∃ (q pq : Nat) (ys : List zCo), q ≤ N ∧ i = .int .i64 q ∧ ys.length = q ∧ Hid (rdN zAo q (l.drop p1) = some (ys, l.drop pq)) ∧ LB zBy 107 8 w.heap.size wr v ys ∧ RS L wr r bv l pq ∧ w.grownBy wr (some r)) (fun _ i _ => N - (intOf i).toNat)
  case atStart => exact ⟨0, p1, [], by omega, rfl, rfl, rfl, LB.nil _ _ _ _ _, hS1, hg1⟩
  case round =>
    obtain ⟨q, pq, ys, hq, rfl, hyl, hrdq, hLB, hSr, hGr⟩ := hrel
    by_cases hqN : q < N
    · go_wp2_with fail
      refine (zU9 L _ r bv l _ hSr).mono ?_
      rintro e w3 ⟨hg3, ⟨hn, rfl⟩ | ⟨v3, y, p3, hrd3, rfl, hR3, hS3⟩⟩
      · have HN := (show Hid ((cL zAo).rd (l.drop p) = none) from zEd (by omega) HR1.out hqN hrdq.out hn)
        clear hn
        go_wp2_with fail
        exact ⟨rfl, zBd.no (zA2 hGr hg3 (.inl rfl)) HN.out⟩
      have HR3 := (show Hid (rdN zAo (q + 1) (l.drop p1) = some (ys ++ [y], l.drop p3)) from by show _ = _; rw [zCt, hrdq.out]; simp [hrd3])
      clear hrd3
      obtain ⟨cs, rfl, hRc⟩ := hR3
      have hc1 := zC8 hRc
      have hcl : cs.length = 8 := zUr hRc
      have hRd := hRc
      obtain ⟨vo, vg, vc, rfl, _, _, _⟩ := hRd
      have hLB3 := hLB.grown zAh hg3 (by omega)
      have hBs : w.heap.size ≤ wr.heap.size := hGr.size
      go_wp2_with (at_builtin; refine zCq zAh rfl _ _ _ rfl 107 8 112 _ Tryz.underlying66 Tryz.inf_preps rfl (by decide) w.heap.size u6 ys rfl hLB3 [.int .i64 y.1, .int .i64 y.2.1.1, .int .i64 y.2.1.2, .int .i64 y.2.2.1.1, .int .i64 y.2.2.1.2.1, vo, vg, vc] y wr.heap.size hRc hcl hc1 hBs hLB.lt rfl (Nat.le_trans hBs hg3.size) (by rw [hyl]; omega) (by decide) ?_; intro v4 w4 hLB4 hg4)
      have hG4 := zA2 (zA2 hGr hg3 (.inl rfl)) hg4 (.inr fun k hk => hLB.fr k hk)
      have hS4 := RS.own hS3 hg4 (fun k hk => Nat.le_trans (by omega) (hLB.fr k hk))
      go_roundw
      case rel => exact ⟨q + 1, p3, ys ++ [y], by omega, by go_num, by simp [hyl], HR3, hLB4, hS4, hG4⟩
      case measure => simp [intOf]; omega
    · obtain rfl : q = N := by omega
      have HE := (show Hid ((cL zAo).rd (l.drop p) = some (ys, l.drop pq)) from zE9 (by omega) HR1.out hrdq.out)
      have hrl := hLB.rl zAh
      have hvo := hLB.form
      go_wp2_with fail
      go_ret
      exact ⟨hGr, .inr ⟨_, ys, pq, HE.out, rfl, hrl, hSr⟩⟩
end
section
open Go.RowKit Oct
set_option maxHeartbeats 2000000 in
theorem zMq (L : Nat) (w : World) (r : Nat) (bv : Value) (l : List Int) (p : Nat) (hS : RS L w r bv l p) :
    Calls Tryz.prog 74 #[.pointer (some ⟨r, 0, none⟩)] w (zBd zBr (VA zDo) L w r bv l p) := by
  obtain ⟨w0, hw0⟩ : ∃ w0, w0 = (w.alloc (.cells ([.int .i64 0, .int .i64 0, .int .i64 0, .int .i64 0, .slice none 0 0, .slice none 0 0, .slice none 0 0, .slice none 0 0] : List Value).toArray 68)).alloc (.cells ([.int .i64 0, .int .i64 0, .int .i64 0, .int .i64 0, .slice none 0 0, .slice none 0 0, .slice none 0 0, .slice none 0 0] : List Value).toArray 68) := ⟨_, rfl⟩
  have hr : Row w0 w.heap.size 68 [.int .i64 0, .int .i64 0, .int .i64 0, .int .i64 0, .slice none 0 0, .slice none 0 0, .slice none 0 0, .slice none 0 0] := by rw [hw0]; exact zA4 (Row.new w 68 [.int .i64 0, .int .i64 0, .int .i64 0, .int .i64 0, .slice none 0 0, .slice none 0 0, .slice none 0 0, .slice none 0 0]) _
  have hv : Row w0 (w.heap.size + 1) 68 [.int .i64 0, .int .i64 0, .int .i64 0, .int .i64 0, .slice none 0 0, .slice none 0 0, .slice none 0 0, .slice none 0 0] := by
    rw [hw0]
    have := Row.new (w.alloc (.cells ([.int .i64 0, .int .i64 0, .int .i64 0, .int .i64 0, .slice none 0 0, .slice none 0 0, .slice none 0 0, .slice none 0 0] : List Value).toArray 68)) 68 [.int .i64 0, .int .i64 0, .int .i64 0, .int .i64 0, .slice none 0 0, .slice none 0 0, .slice none 0 0, .slice none 0 0]
    simpa using this
  have hB : Below w.heap.size w w0 := by rw [hw0]; exact ((Below.refl _ w).alloc zN _).alloc (by simp) _
  have hsz : w0.heap.size = w.heap.size + 2 := by rw [hw0]; simp
  have hG := zA8 hB (some r)
  have hS := hS.below hB
  have hLw := hS.hL
  have hrL := hS.hr
  have hLw0 : L ≤ w.heap.size := by have := ‹RS L w r bv l p›.hL; exact this
  have hne1 : (some r : Option Nat) ≠ some w.heap.size := fun e => by injection e with e; omega
  have hne2 : (some r : Option Nat) ≠ some (w.heap.size + 1) := fun e => by injection e with e; omega
  have hne3 : (some (w.heap.size + 1) : Option Nat) ≠ some w.heap.size := fun e => by injection e with e; omega
  have hC : w.heap.size + 2 ≤ w0.heap.size := by omega
  go_enter Tryz.func74, Tryz.ntmps74
  go_upto_region 2 with fail
  rw [← hw0]
  clear hw0 hsz
  have hv2 := hv
  go_wp2_with fail
  refine (zFo L _ r bv l _ hS).mono ?_
  rintro e wa0 ⟨hga0, ⟨hn, rfl⟩ | ⟨v0, a0, p0, hrd0, rfl, hR0, hS⟩⟩
  · go_wp2_with fail
    exact ⟨rfl, zBd.no (zA2 hG hga0 (.inl rfl)) (by simp [zBr, cP, hn])⟩
  have hG := zA2 hG hga0 (.inl rfl)
  have hr := hr.grown hga0 hne1
  have hv2 := hv2.grown hga0 hne2
  have hC0 := hC
  have hC := Nat.le_trans hC hga0.size
  have hrd0 := (show Hid _ from hrd0)
  obtain ⟨cs, rfl, hcs⟩ := hR0
  have hcs : cs = [.int .i64 a0.1, .int .i64 a0.2] := hcs
  subst hcs
  go_wp2_with (refine zCd rfl _ _ _ rfl (w.heap.size + 1) 0 [.int .i64 a0.1, .int .i64 a0.2] rfl rfl _ _ hv2 (show 2 ≤ 8 by decide) (by kernel_rfl) zNk ?_; intro wb0 hv3 hgb0)
  have hv2 : Row wb0 (w.heap.size + 1) 68 [.int .i64 a0.1, .int .i64 a0.2, .int .i64 0, .int .i64 0, .slice none 0 0, .slice none 0 0, .slice none 0 0, .slice none 0 0] := hv3.out
  clear hv3
  have hG := zA2 hG hgb0 (.inr fun k hk => by cases hk; omega)
  have hS := hS.grown hgb0 (by omega)
  have hC := Nat.le_trans hC hgb0.size
  have hr := hr.grown hgb0 hne3
  refine (zB9 L _ r bv l _ hS).mono ?_
  rintro e wa1 ⟨hga1, ⟨hn, rfl⟩ | ⟨v1, a1, p1, hrd1, rfl, hR1, hS⟩⟩
  · go_wp2_with fail
    exact ⟨rfl, zBd.no (zA2 hG hga1 (.inl rfl)) (by simp [zBr, cP, hrd0.out, hn])⟩
  have hG := zA2 hG hga1 (.inl rfl)
  have hr := hr.grown hga1 hne1
  have hv2 := hv2.grown hga1 hne2
  have hC1 := hC
  have hC := Nat.le_trans hC hga1.size
  have hrd1 := (show Hid _ from hrd1)
  have hR1 : v1 = .int .i64 a1 := hR1
  subst hR1
  go_wp2_with (refine zAb rfl _ _ _ rfl (w.heap.size + 1) 2 _ rfl rfl _ _ hv2 (show 2 < 8 by decide) (by kernel_rfl) rfl ?_; intro wb1 hv3 hgb1)
  have hv2 : Row wb1 (w.heap.size + 1) 68 [.int .i64 a0.1, .int .i64 a0.2, .int .i64 a1, .int .i64 0, .slice none 0 0, .slice none 0 0, .slice none 0 0, .slice none 0 0] := hv3.out
  clear hv3
  have hG := zA2 hG hgb1 (.inr fun k hk => by cases hk; omega)
  have hS := hS.grown hgb1 (by omega)
  have hC := Nat.le_trans hC hgb1.size
  have hr := hr.grown hgb1 hne3
  refine (zB9 L _ r bv l _ hS).mono ?_
  rintro e wa2 ⟨hga2, ⟨hn, rfl⟩ | ⟨v2, a2, p2, hrd2, rfl, hR2, hS⟩⟩
  · go_wp2_with fail
    exact ⟨rfl, zBd.no (zA2 hG hga2 (.inl rfl)) (by simp [zBr, cP, hrd0.out, hrd1.out, hn])⟩
  have hG := zA2 hG hga2 (.inl rfl)
  have hr := hr.grown hga2 hne1
  have hv2 := hv2.grown hga2 hne2
  have hC2 := hC
  have hC := Nat.le_trans hC hga2.size
  have hrd2 := (show Hid _ from hrd2)
  have hR2 : v2 = .int .i64 a2 := hR2
  subst hR2
  go_wp2_with (refine zAb rfl _ _ _ rfl (w.heap.size + 1) 3 _ rfl rfl _ _ hv2 (show 3 < 8 by decide) (by kernel_rfl) rfl ?_; intro wb2 hv3 hgb2)
  have hv2 : Row wb2 (w.heap.size + 1) 68 [.int .i64 a0.1, .int .i64 a0.2, .int .i64 a1, .int .i64 a2, .slice none 0 0, .slice none 0 0, .slice none 0 0, .slice none 0 0] := hv3.out
  clear hv3
  have hG := zA2 hG hgb2 (.inr fun k hk => by cases hk; omega)
  have hS := hS.grown hgb2 (by omega)
  have hC := Nat.le_trans hC hgb2.size
  have hr := hr.grown hgb2 hne3
  refine (zD0 L _ r bv l _ hS).mono ?_
  rintro e wa3 ⟨hga3, ⟨hn, rfl⟩ | ⟨v3, a3, p3, hrd3, rfl, hR3, hS⟩⟩
  · go_wp2_with fail
    exact ⟨rfl, zBd.no (zA2 hG hga3 (.inl rfl)) (by simp [zBr, cP, hrd0.out, hrd1.out, hrd2.out, hn])⟩
  have hG := zA2 hG hga3 (.inl rfl)
  have hr := hr.grown hga3 hne1
  have hv2 := hv2.grown hga3 hne2
  have hC3 := hC
  have hC := Nat.le_trans hC hga3.size
  have hrd3 := (show Hid _ from hrd3)
  have f3 := hR3.mv (Mv.weak (L := w.heap.size + 2) hC3)
  go_wp2_with (refine zAb rfl _ _ _ rfl (w.heap.size + 1) 4 _ rfl rfl _ _ hv2 (show 4 < 8 by decide) (by kernel_rfl) f3.one ?_; intro wb3 hv3 hgb3)
  have hv2 : Row wb3 (w.heap.size + 1) 68 [.int .i64 a0.1, .int .i64 a0.2, .int .i64 a1, .int .i64 a2, v3, .slice none 0 0, .slice none 0 0, .slice none 0 0] := hv3.out
  clear hv3
  have hG := zA2 hG hgb3 (.inr fun k hk => by cases hk; omega)
  have hS := hS.grown hgb3 (by omega)
  have hC := Nat.le_trans hC hgb3.size
  have hr := hr.grown hgb3 hne3
  have f3 := f3.mv (Mv.from (L := w.heap.size + 2) hgb3 (by omega) zN)
  refine (zEt L _ r bv l _ hS).mono ?_
  rintro e wa4 ⟨hga4, ⟨hn, rfl⟩ | ⟨v4, a4, p4, hrd4, rfl, hR4, hS⟩⟩
  · go_wp2_with fail
    exact ⟨rfl, zBd.no (zA2 hG hga4 (.inl rfl)) (by simp [zBr, cP, hrd0.out, hrd1.out, hrd2.out, hrd3.out, hn])⟩
  have hG := zA2 hG hga4 (.inl rfl)
  have hr := hr.grown hga4 hne1
  have hv2 := hv2.grown hga4 hne2
  have hC4 := hC
  have hC := Nat.le_trans hC hga4.size
  have f3 := f3.mv (Mv.from (L := w.heap.size + 2) hga4 (by omega) zN)
  have hrd4 := (show Hid _ from hrd4)
  have f4 := hR4.mv zA9 zN (Mv.weak (L := w.heap.size + 2) hC4)
  go_wp2_with (refine zAb rfl _ _ _ rfl (w.heap.size + 1) 5 _ rfl rfl _ _ hv2 (show 5 < 8 by decide) (by kernel_rfl) f4.one ?_; intro wb4 hv3 hgb4)
  have hv2 : Row wb4 (w.heap.size + 1) 68 [.int .i64 a0.1, .int .i64 a0.2, .int .i64 a1, .int .i64 a2, v3, v4, .slice none 0 0, .slice none 0 0] := hv3.out
  clear hv3
  have hG := zA2 hG hgb4 (.inr fun k hk => by cases hk; omega)
  have hS := hS.grown hgb4 (by omega)
  have hC := Nat.le_trans hC hgb4.size
  have hr := hr.grown hgb4 hne3
  have f3 := f3.mv (Mv.from (L := w.heap.size + 2) hgb4 (by omega) zN)
  have f4 := f4.mv zA9 hgb4.size (Mv.from (L := w.heap.size + 2) hgb4 (by omega) zN)
  refine (zQ3 L _ r bv l _ hS).mono ?_
  rintro e wa5 ⟨hga5, ⟨hn, rfl⟩ | ⟨v5, a5, p5, hrd5, rfl, hR5, hS⟩⟩
  · go_wp2_with fail
    exact ⟨rfl, zBd.no (zA2 hG hga5 (.inl rfl)) (by simp [zBr, cP, hrd0.out, hrd1.out, hrd2.out, hrd3.out, hrd4.out, hn])⟩
  have hG := zA2 hG hga5 (.inl rfl)
  have hr := hr.grown hga5 hne1
  have hv2 := hv2.grown hga5 hne2
  have hC5 := hC
  have hC := Nat.le_trans hC hga5.size
  have f3 := f3.mv (Mv.from (L := w.heap.size + 2) hga5 (by omega) zN)
  have f4 := f4.mv zA9 hga5.size (Mv.from (L := w.heap.size + 2) hga5 (by omega) zN)
  have hrd5 := (show Hid _ from hrd5)
  have f5 := hR5.mv zAh zN (Mv.weak (L := w.heap.size + 2) hC5)
  go_wp2_with (refine zAb rfl _ _ _ rfl (w.heap.size + 1) 6 _ rfl rfl _ _ hv2 (show 6 < 8 by decide) (by kernel_rfl) f5.one ?_; intro wb5 hv3 hgb5)
  have hv2 : Row wb5 (w.heap.size + 1) 68 [.int .i64 a0.1, .int .i64 a0.2, .int .i64 a1, .int .i64 a2, v3, v4, v5, .slice none 0 0] := hv3.out
  clear hv3
  have hG := zA2 hG hgb5 (.inr fun k hk => by cases hk; omega)
  have hS := hS.grown hgb5 (by omega)
  have hC := Nat.le_trans hC hgb5.size
  have hr := hr.grown hgb5 hne3
  have f3 := f3.mv (Mv.from (L := w.heap.size + 2) hgb5 (by omega) zN)
  have f4 := f4.mv zA9 hgb5.size (Mv.from (L := w.heap.size + 2) hgb5 (by omega) zN)
  have f5 := f5.mv zAh hgb5.size (Mv.from (L := w.heap.size + 2) hgb5 (by omega) zN)
  refine (zD0 L _ r bv l _ hS).mono ?_
  rintro e wa6 ⟨hga6, ⟨hn, rfl⟩ | ⟨v6, a6, p6, hrd6, rfl, hR6, hS⟩⟩
  · go_wp2_with fail
    exact ⟨rfl, zBd.no (zA2 hG hga6 (.inl rfl)) (by simp [zBr, cP, hrd0.out, hrd1.out, hrd2.out, hrd3.out, hrd4.out, hrd5.out, hn])⟩
  have hG := zA2 hG hga6 (.inl rfl)
  have hr := hr.grown hga6 hne1
  have hv2 := hv2.grown hga6 hne2
  have hC6 := hC
  have hC := Nat.le_trans hC hga6.size
  have f3 := f3.mv (Mv.from (L := w.heap.size + 2) hga6 (by omega) zN)
  have f4 := f4.mv zA9 hga6.size (Mv.from (L := w.heap.size + 2) hga6 (by omega) zN)
  have f5 := f5.mv zAh hga6.size (Mv.from (L := w.heap.size + 2) hga6 (by omega) zN)
  have hrd6 := (show Hid _ from hrd6)
  have f6 := hR6.mv (Mv.weak (L := w.heap.size + 2) hC6)
  go_wp2_with (first
    | (refine zAb rfl _ _ _ rfl (w.heap.size + 1) 7 _ rfl rfl _ _ hv2 (show 7 < 8 by decide) (by kernel_rfl) f6.one ?_; intro wb6 hv3 hgb6)
    | (refine zAa rfl _ _ rfl (w.heap.size + 1) rfl _ _ hv3.out _ Tryz.underlying68 rfl (by kernel_rfl) ?_; have hr := hr.grown hgb6 hne3)
    | (refine zA7 rfl _ _ _ rfl w.heap.size [.int .i64 a0.1, .int .i64 a0.2, .int .i64 a1, .int .i64 a2, v3, v4, v5, v6] rfl rfl _ _ hr (by rfl) (by kernel_rfl) (by intro u hu; simp only [List.mem_cons, List.not_mem_nil, or_false] at hu; rcases hu with rfl | rfl | rfl | rfl | rfl | rfl | rfl | rfl <;> first | rfl | exact f3.one | exact f4.one | exact f5.one | exact f6.one) ?_; intro wz hrz hgz))
  have hv2 : Row wb6 (w.heap.size + 1) 68 [.int .i64 a0.1, .int .i64 a0.2, .int .i64 a1, .int .i64 a2, v3, v4, v5, v6] := hv3.out
  clear hv3
  have hG := zA2 hG hgb6 (.inr fun k hk => by cases hk; omega)
  have hS := hS.grown hgb6 (by omega)
  have hC := Nat.le_trans hC hgb6.size
  have f3 := f3.mv (Mv.from (L := w.heap.size + 2) hgb6 (by omega) zN)
  have f4 := f4.mv zA9 hgb6.size (Mv.from (L := w.heap.size + 2) hgb6 (by omega) zN)
  have f5 := f5.mv zAh hgb6.size (Mv.from (L := w.heap.size + 2) hgb6 (by omega) zN)
  have f6 := f6.mv (Mv.from (L := w.heap.size + 2) hgb6 (by omega) zN)
  have hG := zA2 hG hgz (.inr fun k hk => by cases hk; omega)
  have hS := hS.grown hgz (by omega)
  have f3 := f3.mv (Mv.from (L := w.heap.size + 2) hgz (by omega) zN)
  have f4 := f4.mv zA9 hgz.size (Mv.from (L := w.heap.size + 2) hgz (by omega) zN)
  have f5 := f5.mv zAh hgz.size (Mv.from (L := w.heap.size + 2) hgz (by omega) zN)
  have f6 := f6.mv (Mv.from (L := w.heap.size + 2) hgz (by omega) zN)
  have f3 := f3.mv (Mv.weak (L := w.heap.size) (by omega))
  have f4 := f4.mv zA9 zN (Mv.weak (L := w.heap.size) (by omega))
  have f5 := f5.mv zAh zN (Mv.weak (L := w.heap.size) (by omega))
  have f6 := f6.mv (Mv.weak (L := w.heap.size) (by omega))
  have hrz := hrz.out
  refine bodyPost_ret (v := .agg ([.int .i64 a0.1, .int .i64 a0.2, .int .i64 a1, .int .i64 a2, v3, v4, v5, v6] : List Value).toArray) (results_cell_row rfl _ _ w.heap.size _ _ (0, 0) _ (by rfl) hrz Tryz.underlying68 rfl (by kernel_rfl)) rfl ?_
  exact ⟨hG, .inr ⟨_, (a0, a1, a2, a3, a4, a5, a6), p6, by simp [zBr, cP, hrd0.out, hrd1.out, hrd2.out, hrd3.out, hrd4.out, hrd5.out, hrd6.out], rfl, ⟨_, rfl, ⟨_, _, _, _, rfl, f3, f4, f5, f6⟩⟩, hS⟩⟩
theorem Tryz.inf_reps : (Tryz.prog.info? 68).map (fun i => (i.zero, i.size, i.bytes)) = some (some (.agg #[.int .i64 0, .int .i64 0, .int .i64 0, .int .i64 0, .slice none 0 0, .slice none 0 0, .slice none 0 0, .slice none 0 0]), 8, 128) := by kernel_rfl
set_option maxHeartbeats 2000000 in
theorem zU3 (L : Nat) (w : World) (r : Nat) (bv : Value) (l : List Int) (p : Nat) (hS : RS L w r bv l p) :
    Calls Tryz.prog 73 #[.pointer (some ⟨r, 0, none⟩), .func (.func 74) #[.pointer (some ⟨r, 0, none⟩)] #[]] w (zBd (cL zBr) (RL zDo 8) L w r bv l p) := by
  have hLw := hS.hL
  have hrL := hS.hr
  have hbl := hS.rd.1.1
  go_enter Tryz.func73, Tryz.ntmps73
  go_wp2_with fail
  refine (zB9 L _ r bv l _ hS).mono ?_
  rintro e w1 ⟨hg1, ⟨hn, rfl⟩ | ⟨v1, n, p1, hrd1, rfl, hR1, hS1⟩⟩
  · go_wp2_with fail
    exact ⟨rfl, zBd.no hg1 (by simp [cL, hn])⟩
  have hR1 : v1 = .int .i64 n := hR1
  subst hR1
  have hn0 : 0 ≤ n := (zGc (zBt.bwd _ _ _ (hbl.drop p) hrd1).1).1
  obtain ⟨N, rfl⟩ := Int.eq_ofNat_of_zero_le hn0
  have HR1 := (show Hid (cN.rd (l.drop p) = some ((N : Int), l.drop p1)) from hrd1)
  clear hrd1 hn0 hS
  by_cases hN : (64 : Int) < (N : Int)
  · go_wp2_with fail
    exact ⟨rfl, zBd.no hg1 (by simp only [cL, HR1.out, Option.bind_some]; rw [if_pos hN])⟩
  go_wp2_with fail
  go_loopw [6, 13] (fun v i wr => ∃ (q pq : Nat) (ys : List zF8), q ≤ N ∧ i = .int .i64 q ∧ ys.length = q ∧ Hid (rdN zBr q (l.drop p1) = some (ys, l.drop pq)) ∧ LB zDo 68 8 w.heap.size wr v ys ∧ RS L wr r bv l pq ∧ w.grownBy wr (some r)) (fun _ i _ => N - (intOf i).toNat)
  case atStart => exact ⟨0, p1, [], by omega, rfl, rfl, rfl, LB.nil _ _ _ _ _, hS1, hg1⟩
  case round =>
    obtain ⟨q, pq, ys, hq, rfl, hyl, hrdq, hLB, hSr, hGr⟩ := hrel
    by_cases hqN : q < N
    · go_wp2_with fail
      refine (zMq L _ r bv l _ hSr).mono ?_
      rintro e w3 ⟨hg3, ⟨hn, rfl⟩ | ⟨v3, y, p3, hrd3, rfl, hR3, hS3⟩⟩
      · have HN := (show Hid ((cL zBr).rd (l.drop p) = none) from zEd (by omega) HR1.out hqN hrdq.out hn)
        clear hn
        go_wp2_with fail
        exact ⟨rfl, zBd.no (zA2 hGr hg3 (.inl rfl)) HN.out⟩
      have HR3 := (show Hid (rdN zBr (q + 1) (l.drop p1) = some (ys ++ [y], l.drop p3)) from by show _ = _; rw [zCt, hrdq.out]; simp [hrd3])
      clear hrd3
      obtain ⟨cs, rfl, hRc⟩ := hR3
      have hc1 := zCk hRc
      have hcl : cs.length = 8 := zKz hRc
      have hRd := hRc
      obtain ⟨vd, vs, vp, vg, rfl, _, _, _, _⟩ := hRd
      have hLB3 := hLB.grown zAm hg3 (by omega)
      have hBs : w.heap.size ≤ wr.heap.size := hGr.size
      go_wp2_with (at_builtin; refine zCq zAm rfl _ _ _ rfl 68 8 128 _ Tryz.underlying38 Tryz.inf_reps rfl (by decide) w.heap.size u6 ys rfl hLB3 [.int .i64 y.1.1, .int .i64 y.1.2, .int .i64 y.2.1, .int .i64 y.2.2.1, vd, vs, vp, vg] y wr.heap.size hRc hcl hc1 hBs hLB.lt rfl (Nat.le_trans hBs hg3.size) (by rw [hyl]; omega) (by decide) ?_; intro v4 w4 hLB4 hg4)
      have hG4 := zA2 (zA2 hGr hg3 (.inl rfl)) hg4 (.inr fun k hk => hLB.fr k hk)
      have hS4 := RS.own hS3 hg4 (fun k hk => Nat.le_trans (by omega) (hLB.fr k hk))
      go_roundw
      case rel => exact ⟨q + 1, p3, ys ++ [y], by omega, by go_num, by simp [hyl], HR3, hLB4, hS4, hG4⟩
      case measure => simp [intOf]; omega
    · obtain rfl : q = N := by omega
      have HE := (show Hid ((cL zBr).rd (l.drop p) = some (ys, l.drop pq)) from zE9 (by omega) HR1.out hrdq.out)
      have hrl := hLB.rl zAm
      have hvo := hLB.form
      go_wp2_with fail
      go_ret
      exact ⟨hGr, .inr ⟨_, ys, pq, HE.out, rfl, hrl, hSr⟩⟩
end
end Go.Proofs.YtgjepofinpmcpaaGreatDoor
