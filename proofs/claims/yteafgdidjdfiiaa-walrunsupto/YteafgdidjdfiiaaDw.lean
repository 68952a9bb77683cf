/- The document's disk: Write. Made by mk11.py. -/
import Derived.Test.YteafgdidjdfiiaaDr
set_option linter.unusedVariables false
set_option linter.unusedSimpArgs false
namespace Go.Proofs.Yteafgdidjdfiiaa
open Go.RowKit Oct

set_option maxRecDepth 10000 in
set_option maxHeartbeats 4000000 in
theorem refWriteD_false (w : World) (vb bv : Value) (d : PDk) (x : List Int) (hb : Rd w vb d.l) (hx : Rd w bv x) (hok : OkD d) (hxl : x.length ≤ 140737488351232) :
    Calls Try.prog 13 #[.agg (dkc vb d).toArray, bv, .bool false] w fun e w' => ∃ vb', e = .returned (.tuple #[.agg (dkc vb' (rwD d x false).1).toArray, .int .i64 (rwD d x false).2]) ∧ Rd w' vb' (rwD d x false).1.l ∧ (vb' = vb ∨ Fr w.heap.size vb') ∧ Below w.heap.size w w' := by
  have hbA := hb
  have hxA := hx
  have hdl := hok.len
  have hr1 := hok.r1
  have hw0 := hok.w0
  have hw1 := hok.w1
  obtain ⟨l, room, dead, due, wr, te⟩ := d
  simp only at hb hbA hdl hr1 hw0 hw1
  obtain ⟨ab, cb, rfl, hcb⟩ := hb.form
  obtain ⟨ax, cx, rfl, hcx⟩ := hx.form
  obtain ⟨w2, hw2, ra, rr, hB, hsz⟩ := two_boxes w (.slice ab l.length cb) ⟨l, room, dead, due, wr, te⟩
  obtain ⟨nl, hnl⟩ : ∃ nl, nl = l.length := ⟨_, rfl⟩
  obtain ⟨nx, hnx⟩ : ∃ nx, nx = x.length := ⟨_, rfl⟩
  rw [← hnl] at hb hbA hw2 ra ⊢
  rw [← hnx] at hx hxA ⊢
  have HNL := (show Hid (l.length = nl) from hnl.symm)
  have HNX := (show Hid (x.length = nx) from hnx.symm)
  have hbl : (nl : Int) ≤ 4194304 := by omega
  have hbx : (nx : Int) ≤ 140737488351232 := by omega
  have hz := Nat.le_of_eq hsz.symm
  have hx2 := hxA.below hB
  have hb2 := hbA.below hB
  have hwn : w.heap.size ≠ w.heap.size + 1 := by omega
  clear hnl hnx hdl hxl hsz hb hx hcb hcx
  go_enter Try.func13, Try.ntmps13
  go_upto_region 1 with fail
  rw [← hw2]
  clear hw2
  go_upto_region 4 with (first
    | (at_builtin; refine app_great rfl _ _ rfl o4 l rfl hown4 _ x rfl hx4 (by have := HNL.out; omega) (by have := HNX.out; omega) w3.heap.size hfr4 hb4.size ?_; intro o5 w5 hown5 hfr5 hg5)
    | (at_builtin; refine app_copy rfl _ _ rfl rfl _ l rfl hl3 (by have := HNL.out; omega) ?_; intro o4 w4 hown4 hfr4 hb4; have hx4 := hx3.below hb4)
    | (at_builtin; refine app_copy rfl _ _ rfl rfl _ x rfl hx2 (by have := HNX.out; omega) ?_; intro o3 w3 hown3 hfr3 hb3; have ra3 := ra.below hb3; have c03 := (rowA ra3 (.cells #[] 5)).cell (j := 0) rfl; have hl3 := hb2.below hb3; have hx3 := hx2.below hb3))
  have q3 := hb3
  have q4 := below_and hb3 (Nat.le_refl _) hb4
  have q5 : Below w2.heap.size w2 w5 := q4.trans (grown_below hg5 q4.size (fun k hk => Nat.le_trans hb3.size (hfr4 k hk)))
  have hfo : Fr w2.heap.size o5 := hfr5.mono hb3.size
  have hXB : Byt (l ++ x) := hbA.1.app hxA.1
  obtain ⟨NX, hNX⟩ : ∃ NX, NX = (l ++ x).length := ⟨_, rfl⟩
  have hNX2 : NX = nl + nx := by rw [hNX, List.length_append, HNL.out, HNX.out]
  have HXL := (show Hid ((l ++ x).length = NX) from hNX.symm)
  obtain ⟨R, hR⟩ : ∃ R, R = l ++ x := ⟨_, rfl⟩
  have HRR := (show Hid (R = l ++ x) from hR)
  rw [← hR] at hown5 hXB HXL
  have ra5 := ra.below q5
  have rr5 := rr.below q5
  have B5 := below_and hB (Nat.le_refl _) q5
  have hfw : Fr w.heap.size o5 := hfo.mono hB.size
  have hb5 := hbA.below B5
  obtain ⟨aN, cN, eN, hcN, hcN2⟩ : ∃ aN cN, o5 = .slice aN NX cN ∧ NX ≤ cN ∧ cN ≤ maxLen := by
    obtain ⟨_, av, cv, e, h1, h2, _⟩ := hown5.rd hXB
    rw [bc_len, HXL.out] at e h1
    exact ⟨av, cv, e, h1, h2⟩
  have hNXi : (NX : Int) = (nl : Int) + (nx : Int) := by omega
  have HNXI := (show Hid _ from hNXi)
  have hNXb : (NX : Int) ≤ 140737492545536 := by omega
  have hnx0 : nxD (⟨l, room, dead, due, wr, te⟩ : PDk) x false = R := by rw [hR]; unfold nxD; simp
  have hlen : ((nxD (⟨l, room, dead, due, wr, te⟩ : PDk) x false).length : Int) = NX := by rw [hnx0, HXL.out]
  have HLEN := (show Hid (((nxD (⟨l, room, dead, due, wr, te⟩ : PDk) x false).length : Int) = NX ∧ nxD (⟨l, room, dead, due, wr, te⟩ : PDk) x false = R) from ⟨hlen, hnx0⟩)
  clear hNX hNX2 hR hNXi hlen hnx0 hb2 hx2 hb3 ra rr
  subst eN
  have c0 := ra5.cell (j := 0) rfl
  have c1 := ra5.cell (j := 1) rfl
  have c2 := ra5.cell (j := 2) rfl
  have c3 := ra5.cell (j := 3) rfl
  have c4 := ra5.cell (j := 4) rfl
  have c5 := ra5.cell (j := 5) rfl
  cases dead with
  | true =>
    have hR : rwD (⟨l, room, true, due, wr, te⟩ : PDk) x false = (⟨l, room, true, due, wr, te⟩, 115) := by unfold rwD; rw [if_pos rfl]
    have HRW := (show Hid _ from hR)
    clear hR
    go_wp2_with (first
      | (refine wl_store rfl _ _ _ rfl (w.heap.size + 1) (dkc (.slice ab nl cb) ⟨l, room, true, due, wr, te⟩) rfl rfl _ _ rr5 rfl (by kernel_rfl) (dkc_one rfl _) ?_; intro w9 hr9 hg9)
      | (refine wl_load rfl _ _ rfl w.heap.size rfl _ _ ra5 _ Try.underlying35 rfl (by kernel_rfl) ?_))
    have B9 : Below w.heap.size w w9 := B5.trans (grown_below hg9 B5.size (fun k hk => by cases hk; omega))
    refine bodyPost_ret (results_ctD rfl _ _ (w.heap.size + 1) _ _ (0, 0) _ (by rfl) hr9.out Try.underlying35 rfl (by kernel_rfl)) rfl ?_
    rw [HRW.out]
    exact ⟨_, rfl, hbA.below B9, .inl rfl, B9⟩
  | false =>
    by_cases hfull : room < NX
    · have hR : rwD (⟨l, room, false, due, wr, te⟩ : PDk) x false = (⟨l, room, false, due, wr, te⟩, 113) := by unfold rwD; rw [if_neg (by simp), if_pos (by rw [HLEN.out.1]; exact hfull)]
      have HRW := (show Hid _ from hR)
      clear hR
      go_wp2_with (first
        | (refine wl_store rfl _ _ _ rfl (w.heap.size + 1) (dkc (.slice ab nl cb) ⟨l, room, false, due, wr, te⟩) rfl rfl _ _ rr5 rfl (by kernel_rfl) (dkc_one rfl _) ?_; intro w9 hr9 hg9)
        | (refine wl_load rfl _ _ rfl w.heap.size rfl _ _ ra5 _ Try.underlying35 rfl (by kernel_rfl) ?_))
      have B9 : Below w.heap.size w w9 := B5.trans (grown_below hg9 B5.size (fun k hk => by cases hk; omega))
      refine bodyPost_ret (results_ctD rfl _ _ (w.heap.size + 1) _ _ (0, 0) _ (by rfl) hr9.out Try.underlying35 rfl (by kernel_rfl)) rfl ?_
      rw [HRW.out]
      exact ⟨_, rfl, hbA.below B9, .inl rfl, B9⟩
    have hfull' : decide (room < (NX : Int)) = false := decide_eq_false hfull
    cases due with
    | false =>
      have hR : rwD (⟨l, room, false, false, wr, te⟩ : PDk) x false = (⟨R, room, false, false, wr, te⟩, 0) := by unfold rwD; rw [if_neg (by simp), if_neg (by rw [HLEN.out.1]; exact hfull), if_neg (by simp [brD]), HLEN.out.2]; simp [coD]
      have HRW := (show Hid _ from hR)
      clear hR
      go_wp2_with (first
        | (refine wl_store rfl _ _ _ rfl (w.heap.size + 1) (dkc (.slice aN NX cN) ⟨R, room, false, false, wr, te⟩) rfl rfl _ _ rr7 rfl (by kernel_rfl) (dkc_one rfl _) ?_; intro w9 hr9 hg9)
        | (refine wl_load rfl _ _ rfl w.heap.size rfl _ _ ra7.out _ Try.underlying35 rfl (by kernel_rfl) ?_)
        | (refine wl_set rfl _ _ _ rfl w.heap.size 0 _ rfl rfl _ _ ra5 (show 0 < 6 by decide) (by kernel_rfl) rfl ?_; intro w7 ra7 hg67; have rr7 := rr5.grown hg67 (by simp)))
      have B7 : Below w.heap.size w w7 := B5.trans (grown_below hg67 B5.size (fun k hk => by cases hk; exact Nat.le_refl _))
      have B9 : Below w.heap.size w w9 := B7.trans (grown_below hg9 B7.size (fun k hk => by cases hk; omega))
      have hn1 : ∀ k, (Value.slice aN NX cN).ownBlock = some k → w.heap.size + 2 ≤ k := fun k hk => Nat.le_trans hz (hfo k hk)
      have hrd9 := ((hown5.rd hXB).grown hg67 (fun _ k hk e => by cases hk; have := hn1 _ e; omega)).grown hg9 (fun _ k hk e => by cases hk; have := hn1 _ e; omega)
      refine bodyPost_ret (results_ctD rfl _ _ (w.heap.size + 1) _ _ (0, 0) _ (by rfl) hr9.out Try.underlying35 rfl (by kernel_rfl)) rfl ?_
      rw [HRW.out]
      exact ⟨_, rfl, hrd9, .inr hfw, B9⟩
    | true =>
      by_cases hwr : wr = 0
      · subst hwr
        by_cases ht0 : te < 0
        · have hwq : wit te x.length = ((0 : Nat) : Int) := by unfold wit; omega
          have hfr : Rd w5 (.slice aN (nl + 0) cN) (l ++ x.take 0) := by
            obtain ⟨a', c', e, _, _, hf⟩ := (hown5.rd hXB).front (nl + 0) (by rw [HXL.out]; have := HNXI.out; omega)
            rw [HXL.out] at e
            injection e with e1 _ e3
            subst e1 e3
            have e4 : R.take (nl + 0) = l ++ x.take 0 := by rw [HRR.out, ← HNL.out, List.take_length_add_append]
            rwa [e4] at hf
          have hcut := run_cutD aN NX cN nl (by have := HNXI.out; omega) hcN
          have hR : rwD (⟨l, room, false, true, 0, te⟩ : PDk) x false = (⟨l ++ x.take 0, room, true, true, 0, te⟩, 115) := by unfold rwD; rw [if_neg (by simp), if_neg (by rw [HLEN.out.1]; exact hfull), if_pos (by simp [brD])]; simp only [Bool.false_eq_true, if_false, hwq, Int.toNat_natCast]
          have HRW := (show Hid _ from hR)
          clear hR
          go_wp2_with (first
            | (refine wl_store rfl _ _ _ rfl (w.heap.size + 1) (dkc (.slice aN (nl + 0) cN) ⟨l ++ x.take 0, room, true, true, 0, te⟩) rfl rfl _ _ rr7 rfl (by kernel_rfl) (dkc_one rfl _) ?_; intro w9 hr9 hg9)
            | (refine wl_load rfl _ _ rfl w.heap.size rfl _ _ ra7.out _ Try.underlying35 rfl (by kernel_rfl) ?_)
            | (refine wl_set rfl _ _ _ rfl w.heap.size 0 _ rfl rfl _ _ ra6.out (show 0 < 6 by decide) (by kernel_rfl) rfl ?_; intro w7 ra7 hg7; have rr7 := (rr5.grown hg6 (by simp)).grown hg7 (by simp))
            | (refine wl_set rfl _ _ _ rfl w.heap.size 2 _ rfl rfl _ _ ra5 (show 2 < 6 by decide) (by kernel_rfl) rfl ?_; intro w6 ra6 hg6; have e0 := ra6.out.cell (j := 0) rfl; have e5 := ra6.out.cell (j := 5) rfl))
          have hg67 := grown_trans hg6 hg7 (.inl rfl)
          have B7 : Below w.heap.size w w7 := B5.trans (grown_below hg67 B5.size (fun k hk => by cases hk; exact Nat.le_refl _))
          have B9 : Below w.heap.size w w9 := B7.trans (grown_below hg9 B7.size (fun k hk => by cases hk; omega))
          have hn1 : ∀ k, (Value.slice aN (nl + 0) cN).ownBlock = some k → w.heap.size + 2 ≤ k := fun k hk => Nat.le_trans hz (hfo k (by rw [ownB_len _ _ _ (nl + 0) cN]; exact hk))
          have hrd9 := (hfr.grown hg67 (fun _ k hk e => by cases hk; have := hn1 _ e; omega)).grown hg9 (fun _ k hk e => by cases hk; have := hn1 _ e; omega)
          refine bodyPost_ret (results_ctD rfl _ _ (w.heap.size + 1) _ _ (0, 0) _ (by rfl) hr9.out Try.underlying35 rfl (by kernel_rfl)) rfl ?_
          rw [HRW.out]
          exact ⟨_, rfl, hrd9, .inr (fun k hk => by have := hn1 k hk; omega), B9⟩
        by_cases htx : (nx : Int) < te
        · have hwq : wit te x.length = (nx : Int) := by unfold wit; have := HNX.out; omega
          have ht0' : decide (te < 0) = false := by simp; omega
          have hfr : Rd w5 (.slice aN (nl + nx) cN) (l ++ x.take nx) := by
            obtain ⟨a', c', e, _, _, hf⟩ := (hown5.rd hXB).front (nl + nx) (by rw [HXL.out]; have := HNXI.out; omega)
            rw [HXL.out] at e
            injection e with e1 _ e3
            subst e1 e3
            have e4 : R.take (nl + nx) = l ++ x.take nx := by rw [HRR.out, ← HNL.out, List.take_length_add_append]
            rwa [e4] at hf
          have hcut : ∀ u : World, (Instr.slice 22 (.slice aN NX cN) none (some (.int .i64 ((nl : Int) + (nx : Int)))) none).run Try.prog u = .ok (.slice aN (nl + nx) cN) u := fun u => by rw [← Int.natCast_add]; exact run_cutD aN NX cN (nl + nx) (by have := HNXI.out; omega) hcN u
          have hR : rwD (⟨l, room, false, true, 0, te⟩ : PDk) x false = (⟨l ++ x.take nx, room, true, true, 0, te⟩, 115) := by unfold rwD; rw [if_neg (by simp), if_neg (by rw [HLEN.out.1]; exact hfull), if_pos (by simp [brD])]; simp only [Bool.false_eq_true, if_false, hwq, Int.toNat_natCast]
          have HRW := (show Hid _ from hR)
          clear hR
          go_wp2_with (first
            | (refine wl_store rfl _ _ _ rfl (w.heap.size + 1) (dkc (.slice aN (nl + nx) cN) ⟨l ++ x.take nx, room, true, true, 0, te⟩) rfl rfl _ _ rr7 rfl (by kernel_rfl) (dkc_one rfl _) ?_; intro w9 hr9 hg9)
            | (refine wl_load rfl _ _ rfl w.heap.size rfl _ _ ra7.out _ Try.underlying35 rfl (by kernel_rfl) ?_)
            | (refine wl_set rfl _ _ _ rfl w.heap.size 0 _ rfl rfl _ _ ra6.out (show 0 < 6 by decide) (by kernel_rfl) rfl ?_; intro w7 ra7 hg7; have rr7 := (rr5.grown hg6 (by simp)).grown hg7 (by simp))
            | (refine wl_set rfl _ _ _ rfl w.heap.size 2 _ rfl rfl _ _ ra5 (show 2 < 6 by decide) (by kernel_rfl) rfl ?_; intro w6 ra6 hg6; have e0 := ra6.out.cell (j := 0) rfl; have e5 := ra6.out.cell (j := 5) rfl))
          have hg67 := grown_trans hg6 hg7 (.inl rfl)
          have B7 : Below w.heap.size w w7 := B5.trans (grown_below hg67 B5.size (fun k hk => by cases hk; exact Nat.le_refl _))
          have B9 : Below w.heap.size w w9 := B7.trans (grown_below hg9 B7.size (fun k hk => by cases hk; omega))
          have hn1 : ∀ k, (Value.slice aN (nl + nx) cN).ownBlock = some k → w.heap.size + 2 ≤ k := fun k hk => Nat.le_trans hz (hfo k (by rw [ownB_len _ _ _ (nl + nx) cN]; exact hk))
          have hrd9 := (hfr.grown hg67 (fun _ k hk e => by cases hk; have := hn1 _ e; omega)).grown hg9 (fun _ k hk e => by cases hk; have := hn1 _ e; omega)
          refine bodyPost_ret (results_ctD rfl _ _ (w.heap.size + 1) _ _ (0, 0) _ (by rfl) hr9.out Try.underlying35 rfl (by kernel_rfl)) rfl ?_
          rw [HRW.out]
          exact ⟨_, rfl, hrd9, .inr (fun k hk => by have := hn1 k hk; omega), B9⟩
        · obtain ⟨q, rfl⟩ := Int.eq_ofNat_of_zero_le (show 0 ≤ te by omega)
          have hwq : wit (q : Int) x.length = (q : Int) := by unfold wit; have := HNX.out; omega
          have htx' : decide ((nx : Int) < (q : Int)) = false := decide_eq_false htx
          have hqx : (q : Int) ≤ nx := by omega
          have hfr : Rd w5 (.slice aN (nl + q) cN) (l ++ x.take q) := by
            obtain ⟨a', c', e, _, _, hf⟩ := (hown5.rd hXB).front (nl + q) (by rw [HXL.out]; have := HNXI.out; omega)
            rw [HXL.out] at e
            injection e with e1 _ e3
            subst e1 e3
            have e4 : R.take (nl + q) = l ++ x.take q := by rw [HRR.out, ← HNL.out, List.take_length_add_append]
            rwa [e4] at hf
          have hcut : ∀ u : World, (Instr.slice 22 (.slice aN NX cN) none (some (.int .i64 ((nl : Int) + (q : Int)))) none).run Try.prog u = .ok (.slice aN (nl + q) cN) u := fun u => by rw [← Int.natCast_add]; exact run_cutD aN NX cN (nl + q) (by have := HNXI.out; omega) hcN u
          have hR : rwD (⟨l, room, false, true, 0, (q : Int)⟩ : PDk) x false = (⟨l ++ x.take q, room, true, true, 0, (q : Int)⟩, 115) := by unfold rwD; rw [if_neg (by simp), if_neg (by rw [HLEN.out.1]; exact hfull), if_pos (by simp [brD])]; simp only [Bool.false_eq_true, if_false, hwq, Int.toNat_natCast]
          have HRW := (show Hid _ from hR)
          clear hR
          go_wp2_with (first
            | (refine wl_store rfl _ _ _ rfl (w.heap.size + 1) (dkc (.slice aN (nl + q) cN) ⟨l ++ x.take q, room, true, true, 0, (q : Int)⟩) rfl rfl _ _ rr7 rfl (by kernel_rfl) (dkc_one rfl _) ?_; intro w9 hr9 hg9)
            | (refine wl_load rfl _ _ rfl w.heap.size rfl _ _ ra7.out _ Try.underlying35 rfl (by kernel_rfl) ?_)
            | (refine wl_set rfl _ _ _ rfl w.heap.size 0 _ rfl rfl _ _ ra6.out (show 0 < 6 by decide) (by kernel_rfl) rfl ?_; intro w7 ra7 hg7; have rr7 := (rr5.grown hg6 (by simp)).grown hg7 (by simp))
            | (refine wl_set rfl _ _ _ rfl w.heap.size 2 _ rfl rfl _ _ ra5 (show 2 < 6 by decide) (by kernel_rfl) rfl ?_; intro w6 ra6 hg6; have e0 := ra6.out.cell (j := 0) rfl; have e5 := ra6.out.cell (j := 5) rfl))
          have hg67 := grown_trans hg6 hg7 (.inl rfl)
          have B7 : Below w.heap.size w w7 := B5.trans (grown_below hg67 B5.size (fun k hk => by cases hk; exact Nat.le_refl _))
          have B9 : Below w.heap.size w w9 := B7.trans (grown_below hg9 B7.size (fun k hk => by cases hk; omega))
          have hn1 : ∀ k, (Value.slice aN (nl + q) cN).ownBlock = some k → w.heap.size + 2 ≤ k := fun k hk => Nat.le_trans hz (hfo k (by rw [ownB_len _ _ _ (nl + q) cN]; exact hk))
          have hrd9 := (hfr.grown hg67 (fun _ k hk e => by cases hk; have := hn1 _ e; omega)).grown hg9 (fun _ k hk e => by cases hk; have := hn1 _ e; omega)
          refine bodyPost_ret (results_ctD rfl _ _ (w.heap.size + 1) _ _ (0, 0) _ (by rfl) hr9.out Try.underlying35 rfl (by kernel_rfl)) rfl ?_
          rw [HRW.out]
          exact ⟨_, rfl, hrd9, .inr (fun k hk => by have := hn1 k hk; omega), B9⟩
      · have hR : rwD (⟨l, room, false, true, wr, te⟩ : PDk) x false = (⟨R, room, false, true, wr - 1, te⟩, 0) := by unfold rwD; rw [if_neg (by simp), if_neg (by rw [HLEN.out.1]; exact hfull), if_neg (by simp [brD, hwr]), HLEN.out.2]; simp [coD, hwr]
        have HRW := (show Hid _ from hR)
        clear hR
        have hwb : (wr == 0) = false := by simp [hwr]
        go_wp2_with (first
          | (refine wl_store rfl _ _ _ rfl (w.heap.size + 1) (dkc (.slice aN NX cN) ⟨R, room, false, true, wr - 1, te⟩) rfl rfl _ _ rr7 rfl (by kernel_rfl) (dkc_one rfl _) ?_; intro w9 hr9 hg9)
          | (refine wl_load rfl _ _ rfl w.heap.size rfl _ _ ra7.out _ Try.underlying35 rfl (by kernel_rfl) ?_)
          | (refine wl_set rfl _ _ _ rfl w.heap.size 0 _ rfl rfl _ _ ra6.out (show 0 < 6 by decide) (by kernel_rfl) rfl ?_; intro w7 ra7 hg7; have rr7 := (rr5.grown hg6 (by simp)).grown hg7 (by simp))
          | (refine wl_set rfl _ _ _ rfl w.heap.size 4 _ rfl rfl _ _ ra5 (show 4 < 6 by decide) (by kernel_rfl) rfl ?_; intro w6 ra6 hg6))
        have hg67 := grown_trans hg6 hg7 (.inl rfl)
        have B7 : Below w.heap.size w w7 := B5.trans (grown_below hg67 B5.size (fun k hk => by cases hk; exact Nat.le_refl _))
        have B9 : Below w.heap.size w w9 := B7.trans (grown_below hg9 B7.size (fun k hk => by cases hk; omega))
        have hn1 : ∀ k, (Value.slice aN NX cN).ownBlock = some k → w.heap.size + 2 ≤ k := fun k hk => Nat.le_trans hz (hfo k hk)
        have hrd9 := ((hown5.rd hXB).grown hg67 (fun _ k hk e => by cases hk; have := hn1 _ e; omega)).grown hg9 (fun _ k hk e => by cases hk; have := hn1 _ e; omega)
        refine bodyPost_ret (results_ctD rfl _ _ (w.heap.size + 1) _ _ (0, 0) _ (by rfl) hr9.out Try.underlying35 rfl (by kernel_rfl)) rfl ?_
        rw [HRW.out]
        exact ⟨_, rfl, hrd9, .inr hfw, B9⟩

set_option maxRecDepth 10000 in
set_option maxHeartbeats 4000000 in
theorem refWriteD_true (w : World) (vb bv : Value) (d : PDk) (x : List Int) (hb : Rd w vb d.l) (hx : Rd w bv x) (hok : OkD d) (hxl : x.length ≤ 140737488351232) :
    Calls Try.prog 13 #[.agg (dkc vb d).toArray, bv, .bool true] w fun e w' => ∃ vb', e = .returned (.tuple #[.agg (dkc vb' (rwD d x true).1).toArray, .int .i64 (rwD d x true).2]) ∧ Rd w' vb' (rwD d x true).1.l ∧ (vb' = vb ∨ Fr w.heap.size vb') ∧ Below w.heap.size w w' := by
  have hbA := hb
  have hxA := hx
  have hdl := hok.len
  have hr1 := hok.r1
  have hw0 := hok.w0
  have hw1 := hok.w1
  obtain ⟨l, room, dead, due, wr, te⟩ := d
  simp only at hb hbA hdl hr1 hw0 hw1
  obtain ⟨ab, cb, rfl, hcb⟩ := hb.form
  obtain ⟨ax, cx, rfl, hcx⟩ := hx.form
  obtain ⟨w2, hw2, ra, rr, hB, hsz⟩ := two_boxes w (.slice ab l.length cb) ⟨l, room, dead, due, wr, te⟩
  obtain ⟨nl, hnl⟩ : ∃ nl, nl = l.length := ⟨_, rfl⟩
  obtain ⟨nx, hnx⟩ : ∃ nx, nx = x.length := ⟨_, rfl⟩
  rw [← hnl] at hb hbA hw2 ra ⊢
  rw [← hnx] at hx hxA ⊢
  have HNL := (show Hid (l.length = nl) from hnl.symm)
  have HNX := (show Hid (x.length = nx) from hnx.symm)
  have hbl : (nl : Int) ≤ 4194304 := by omega
  have hbx : (nx : Int) ≤ 140737488351232 := by omega
  have hz := Nat.le_of_eq hsz.symm
  have hx2 := hxA.below hB
  have hb2 := hbA.below hB
  have hwn : w.heap.size ≠ w.heap.size + 1 := by omega
  clear hnl hnx hdl hxl hsz hb hx hcb hcx
  go_enter Try.func13, Try.ntmps13
  go_upto_region 1 with fail
  rw [← hw2]
  clear hw2
  go_upto_region 4 with (at_builtin; refine app_copy rfl _ _ rfl rfl _ x rfl hx2 (by have := HNX.out; omega) ?_; intro o5 w5 hown5 hfr5 hb3)
  have q5 := hb3
  have hfo : Fr w2.heap.size o5 := hfr5
  have hXB : Byt x := hxA.1
  obtain ⟨NX, hNX⟩ : ∃ NX, NX = x.length := ⟨_, rfl⟩
  have hNX2 : NX = nx := by rw [hNX, HNX.out]
  have HXL := (show Hid (x.length = NX) from hNX.symm)
  obtain ⟨R, hR⟩ : ∃ R, R = x := ⟨_, rfl⟩
  have HRR := (show Hid (R = x) from hR)
  rw [← hR] at hown5 hXB HXL
  have ra5 := ra.below q5
  have rr5 := rr.below q5
  have B5 := below_and hB (Nat.le_refl _) q5
  have hfw : Fr w.heap.size o5 := hfo.mono hB.size
  have hb5 := hbA.below B5
  obtain ⟨aN, cN, eN, hcN, hcN2⟩ : ∃ aN cN, o5 = .slice aN NX cN ∧ NX ≤ cN ∧ cN ≤ maxLen := by
    obtain ⟨_, av, cv, e, h1, h2, _⟩ := hown5.rd hXB
    rw [bc_len, HXL.out] at e h1
    exact ⟨av, cv, e, h1, h2⟩
  have hNXi : (NX : Int) = (nx : Int) := by omega
  have HNXI := (show Hid _ from hNXi)
  have hNXb : (NX : Int) ≤ 140737492545536 := by omega
  have hnx0 : nxD (⟨l, room, dead, due, wr, te⟩ : PDk) x true = R := by rw [hR]; unfold nxD; simp
  have hlen : ((nxD (⟨l, room, dead, due, wr, te⟩ : PDk) x true).length : Int) = NX := by rw [hnx0, HXL.out]
  have HLEN := (show Hid (((nxD (⟨l, room, dead, due, wr, te⟩ : PDk) x true).length : Int) = NX ∧ nxD (⟨l, room, dead, due, wr, te⟩ : PDk) x true = R) from ⟨hlen, hnx0⟩)
  clear hNX hNX2 hR hNXi hlen hnx0 hb2 hx2 hb3 ra rr
  subst eN
  have c0 := ra5.cell (j := 0) rfl
  have c1 := ra5.cell (j := 1) rfl
  have c2 := ra5.cell (j := 2) rfl
  have c3 := ra5.cell (j := 3) rfl
  have c4 := ra5.cell (j := 4) rfl
  have c5 := ra5.cell (j := 5) rfl
  cases dead with
  | true =>
    have hR : rwD (⟨l, room, true, due, wr, te⟩ : PDk) x true = (⟨l, room, true, due, wr, te⟩, 115) := by unfold rwD; rw [if_pos rfl]
    have HRW := (show Hid _ from hR)
    clear hR
    go_wp2_with (first
      | (refine wl_store rfl _ _ _ rfl (w.heap.size + 1) (dkc (.slice ab nl cb) ⟨l, room, true, due, wr, te⟩) rfl rfl _ _ rr5 rfl (by kernel_rfl) (dkc_one rfl _) ?_; intro w9 hr9 hg9)
      | (refine wl_load rfl _ _ rfl w.heap.size rfl _ _ ra5 _ Try.underlying35 rfl (by kernel_rfl) ?_))
    have B9 : Below w.heap.size w w9 := B5.trans (grown_below hg9 B5.size (fun k hk => by cases hk; omega))
    refine bodyPost_ret (results_ctD rfl _ _ (w.heap.size + 1) _ _ (0, 0) _ (by rfl) hr9.out Try.underlying35 rfl (by kernel_rfl)) rfl ?_
    rw [HRW.out]
    exact ⟨_, rfl, hbA.below B9, .inl rfl, B9⟩
  | false =>
    by_cases hfull : room < NX
    · have hR : rwD (⟨l, room, false, due, wr, te⟩ : PDk) x true = (⟨l, room, false, due, wr, te⟩, 113) := by unfold rwD; rw [if_neg (by simp), if_pos (by rw [HLEN.out.1]; exact hfull)]
      have HRW := (show Hid _ from hR)
      clear hR
      go_wp2_with (first
        | (refine wl_store rfl _ _ _ rfl (w.heap.size + 1) (dkc (.slice ab nl cb) ⟨l, room, false, due, wr, te⟩) rfl rfl _ _ rr5 rfl (by kernel_rfl) (dkc_one rfl _) ?_; intro w9 hr9 hg9)
        | (refine wl_load rfl _ _ rfl w.heap.size rfl _ _ ra5 _ Try.underlying35 rfl (by kernel_rfl) ?_))
      have B9 : Below w.heap.size w w9 := B5.trans (grown_below hg9 B5.size (fun k hk => by cases hk; omega))
      refine bodyPost_ret (results_ctD rfl _ _ (w.heap.size + 1) _ _ (0, 0) _ (by rfl) hr9.out Try.underlying35 rfl (by kernel_rfl)) rfl ?_
      rw [HRW.out]
      exact ⟨_, rfl, hbA.below B9, .inl rfl, B9⟩
    have hfull' : decide (room < (NX : Int)) = false := decide_eq_false hfull
    cases due with
    | false =>
      have hR : rwD (⟨l, room, false, false, wr, te⟩ : PDk) x true = (⟨R, room, false, false, wr, te⟩, 0) := by unfold rwD; rw [if_neg (by simp), if_neg (by rw [HLEN.out.1]; exact hfull), if_neg (by simp [brD]), HLEN.out.2]; simp [coD]
      have HRW := (show Hid _ from hR)
      clear hR
      go_wp2_with (first
        | (refine wl_store rfl _ _ _ rfl (w.heap.size + 1) (dkc (.slice aN NX cN) ⟨R, room, false, false, wr, te⟩) rfl rfl _ _ rr7 rfl (by kernel_rfl) (dkc_one rfl _) ?_; intro w9 hr9 hg9)
        | (refine wl_load rfl _ _ rfl w.heap.size rfl _ _ ra7.out _ Try.underlying35 rfl (by kernel_rfl) ?_)
        | (refine wl_set rfl _ _ _ rfl w.heap.size 0 _ rfl rfl _ _ ra5 (show 0 < 6 by decide) (by kernel_rfl) rfl ?_; intro w7 ra7 hg67; have rr7 := rr5.grown hg67 (by simp)))
      have B7 : Below w.heap.size w w7 := B5.trans (grown_below hg67 B5.size (fun k hk => by cases hk; exact Nat.le_refl _))
      have B9 : Below w.heap.size w w9 := B7.trans (grown_below hg9 B7.size (fun k hk => by cases hk; omega))
      have hn1 : ∀ k, (Value.slice aN NX cN).ownBlock = some k → w.heap.size + 2 ≤ k := fun k hk => Nat.le_trans hz (hfo k hk)
      have hrd9 := ((hown5.rd hXB).grown hg67 (fun _ k hk e => by cases hk; have := hn1 _ e; omega)).grown hg9 (fun _ k hk e => by cases hk; have := hn1 _ e; omega)
      refine bodyPost_ret (results_ctD rfl _ _ (w.heap.size + 1) _ _ (0, 0) _ (by rfl) hr9.out Try.underlying35 rfl (by kernel_rfl)) rfl ?_
      rw [HRW.out]
      exact ⟨_, rfl, hrd9, .inr hfw, B9⟩
    | true =>
      by_cases hwr : wr = 0
      · subst hwr
        by_cases ht0 : te < 0
        · have hwq : wit te x.length = ((0 : Nat) : Int) := by unfold wit; omega
          have hR : rwD (⟨l, room, false, true, 0, te⟩ : PDk) x true = (⟨l, room, true, true, 0, te⟩, 115) := by unfold rwD; rw [if_neg (by simp), if_neg (by rw [HLEN.out.1]; exact hfull), if_pos (by simp [brD])]; simp
          have HRW := (show Hid _ from hR)
          clear hR
          go_wp2_with (first
            | (refine wl_store rfl _ _ _ rfl (w.heap.size + 1) (dkc (.slice ab nl cb) ⟨l, room, true, true, 0, te⟩) rfl rfl _ _ rr7 rfl (by kernel_rfl) (dkc_one rfl _) ?_; intro w9 hr9 hg9)
            | (refine wl_load rfl _ _ rfl w.heap.size rfl _ _ ra7.out _ Try.underlying35 rfl (by kernel_rfl) ?_)
            | (refine wl_set rfl _ _ _ rfl w.heap.size 2 _ rfl rfl _ _ ra5 (show 2 < 6 by decide) (by kernel_rfl) rfl ?_; intro w7 ra7 hg67; have e5 := ra7.out.cell (j := 5) rfl; have rr7 := rr5.grown hg67 (by simp)))
          have B7 : Below w.heap.size w w7 := B5.trans (grown_below hg67 B5.size (fun k hk => by cases hk; exact Nat.le_refl _))
          have B9 : Below w.heap.size w w9 := B7.trans (grown_below hg9 B7.size (fun k hk => by cases hk; omega))
          refine bodyPost_ret (results_ctD rfl _ _ (w.heap.size + 1) _ _ (0, 0) _ (by rfl) hr9.out Try.underlying35 rfl (by kernel_rfl)) rfl ?_
          rw [HRW.out]
          exact ⟨_, rfl, hbA.below B9, .inl rfl, B9⟩
        by_cases htx : (nx : Int) < te
        · have hwq : wit te x.length = (nx : Int) := by unfold wit; have := HNX.out; omega
          have ht0' : decide (te < 0) = false := by simp; omega
          have hR : rwD (⟨l, room, false, true, 0, te⟩ : PDk) x true = (⟨l, room, true, true, 0, te⟩, 115) := by unfold rwD; rw [if_neg (by simp), if_neg (by rw [HLEN.out.1]; exact hfull), if_pos (by simp [brD])]; simp
          have HRW := (show Hid _ from hR)
          clear hR
          go_wp2_with (first
            | (refine wl_store rfl _ _ _ rfl (w.heap.size + 1) (dkc (.slice ab nl cb) ⟨l, room, true, true, 0, te⟩) rfl rfl _ _ rr7 rfl (by kernel_rfl) (dkc_one rfl _) ?_; intro w9 hr9 hg9)
            | (refine wl_load rfl _ _ rfl w.heap.size rfl _ _ ra7.out _ Try.underlying35 rfl (by kernel_rfl) ?_)
            | (refine wl_set rfl _ _ _ rfl w.heap.size 2 _ rfl rfl _ _ ra5 (show 2 < 6 by decide) (by kernel_rfl) rfl ?_; intro w7 ra7 hg67; have e5 := ra7.out.cell (j := 5) rfl; have rr7 := rr5.grown hg67 (by simp)))
          have B7 : Below w.heap.size w w7 := B5.trans (grown_below hg67 B5.size (fun k hk => by cases hk; exact Nat.le_refl _))
          have B9 : Below w.heap.size w w9 := B7.trans (grown_below hg9 B7.size (fun k hk => by cases hk; omega))
          refine bodyPost_ret (results_ctD rfl _ _ (w.heap.size + 1) _ _ (0, 0) _ (by rfl) hr9.out Try.underlying35 rfl (by kernel_rfl)) rfl ?_
          rw [HRW.out]
          exact ⟨_, rfl, hbA.below B9, .inl rfl, B9⟩
        · obtain ⟨q, rfl⟩ := Int.eq_ofNat_of_zero_le (show 0 ≤ te by omega)
          have hwq : wit (q : Int) x.length = (q : Int) := by unfold wit; have := HNX.out; omega
          have htx' : decide ((nx : Int) < (q : Int)) = false := decide_eq_false htx
          have hqx : (q : Int) ≤ nx := by omega
          have hR : rwD (⟨l, room, false, true, 0, (q : Int)⟩ : PDk) x true = (⟨l, room, true, true, 0, (q : Int)⟩, 115) := by unfold rwD; rw [if_neg (by simp), if_neg (by rw [HLEN.out.1]; exact hfull), if_pos (by simp [brD])]; simp
          have HRW := (show Hid _ from hR)
          clear hR
          go_wp2_with (first
            | (refine wl_store rfl _ _ _ rfl (w.heap.size + 1) (dkc (.slice ab nl cb) ⟨l, room, true, true, 0, (q : Int)⟩) rfl rfl _ _ rr7 rfl (by kernel_rfl) (dkc_one rfl _) ?_; intro w9 hr9 hg9)
            | (refine wl_load rfl _ _ rfl w.heap.size rfl _ _ ra7.out _ Try.underlying35 rfl (by kernel_rfl) ?_)
            | (refine wl_set rfl _ _ _ rfl w.heap.size 2 _ rfl rfl _ _ ra5 (show 2 < 6 by decide) (by kernel_rfl) rfl ?_; intro w7 ra7 hg67; have e5 := ra7.out.cell (j := 5) rfl; have rr7 := rr5.grown hg67 (by simp)))
          have B7 : Below w.heap.size w w7 := B5.trans (grown_below hg67 B5.size (fun k hk => by cases hk; exact Nat.le_refl _))
          have B9 : Below w.heap.size w w9 := B7.trans (grown_below hg9 B7.size (fun k hk => by cases hk; omega))
          refine bodyPost_ret (results_ctD rfl _ _ (w.heap.size + 1) _ _ (0, 0) _ (by rfl) hr9.out Try.underlying35 rfl (by kernel_rfl)) rfl ?_
          rw [HRW.out]
          exact ⟨_, rfl, hbA.below B9, .inl rfl, B9⟩
      · have hR : rwD (⟨l, room, false, true, wr, te⟩ : PDk) x true = (⟨R, room, false, true, wr - 1, te⟩, 0) := by unfold rwD; rw [if_neg (by simp), if_neg (by rw [HLEN.out.1]; exact hfull), if_neg (by simp [brD, hwr]), HLEN.out.2]; simp [coD, hwr]
        have HRW := (show Hid _ from hR)
        clear hR
        have hwb : (wr == 0) = false := by simp [hwr]
        go_wp2_with (first
          | (refine wl_store rfl _ _ _ rfl (w.heap.size + 1) (dkc (.slice aN NX cN) ⟨R, room, false, true, wr - 1, te⟩) rfl rfl _ _ rr7 rfl (by kernel_rfl) (dkc_one rfl _) ?_; intro w9 hr9 hg9)
          | (refine wl_load rfl _ _ rfl w.heap.size rfl _ _ ra7.out _ Try.underlying35 rfl (by kernel_rfl) ?_)
          | (refine wl_set rfl _ _ _ rfl w.heap.size 0 _ rfl rfl _ _ ra6.out (show 0 < 6 by decide) (by kernel_rfl) rfl ?_; intro w7 ra7 hg7; have rr7 := (rr5.grown hg6 (by simp)).grown hg7 (by simp))
          | (refine wl_set rfl _ _ _ rfl w.heap.size 4 _ rfl rfl _ _ ra5 (show 4 < 6 by decide) (by kernel_rfl) rfl ?_; intro w6 ra6 hg6))
        have hg67 := grown_trans hg6 hg7 (.inl rfl)
        have B7 : Below w.heap.size w w7 := B5.trans (grown_below hg67 B5.size (fun k hk => by cases hk; exact Nat.le_refl _))
        have B9 : Below w.heap.size w w9 := B7.trans (grown_below hg9 B7.size (fun k hk => by cases hk; omega))
        have hn1 : ∀ k, (Value.slice aN NX cN).ownBlock = some k → w.heap.size + 2 ≤ k := fun k hk => Nat.le_trans hz (hfo k hk)
        have hrd9 := ((hown5.rd hXB).grown hg67 (fun _ k hk e => by cases hk; have := hn1 _ e; omega)).grown hg9 (fun _ k hk e => by cases hk; have := hn1 _ e; omega)
        refine bodyPost_ret (results_ctD rfl _ _ (w.heap.size + 1) _ _ (0, 0) _ (by rfl) hr9.out Try.underlying35 rfl (by kernel_rfl)) rfl ?_
        rw [HRW.out]
        exact ⟨_, rfl, hrd9, .inr hfw, B9⟩

end Go.Proofs.Yteafgdidjdfiiaa
