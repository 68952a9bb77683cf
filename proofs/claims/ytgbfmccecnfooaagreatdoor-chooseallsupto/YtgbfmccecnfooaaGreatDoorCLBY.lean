/- catenarylaw18.ChooseAlls: its walk. Written by mk20u.py. -/
import Derived.Test.YtgbfmccecnfooaaGreatDoorCLBW
import Derived.Test.YtgbfmccecnfooaaGreatDoorCLBX
import Derived.Test.YtgbfmccecnfooaaGreatDoorCLBG
set_option linter.unusedSimpArgs false
set_option linter.unusedVariables false
namespace Go.Proofs.YtgbfmccecnfooaaGreatDoor
section
open Go.RowKit Oct Bal
set_option maxRecDepth 10000 in
set_option maxHeartbeats 8000000 in
theorem refAllR_any (w : World) (b : PBal) (v : Value) (ys : List PRep) (n : Int) (hvs : RL RRep 8 Any w v ys) (hq : ∀ r ∈ ys, okQ r) (hbx : ∀ r ∈ ys, bR r ≤ 1050000) :
    Calls Tryz.prog 12 #[.agg #[.int .i64 b.1, .int .i64 b.2], v, .int .i64 n] w fun e w' => e = .returned (.bool (allL b n ys)) ∧ Below w.heap.size w w' := by
  obtain ⟨aa, ca, rfl, _⟩ := hvs.form
  have hlv := len_rep hvs
  obtain ⟨w1, hw1⟩ : ∃ u, u = w.alloc (.cells #[.int .i64 b.1, .int .i64 b.2] 23) := ⟨_, rfl⟩
  have r1 : Row w1 w.heap.size 23 [.int .i64 b.1, .int .i64 b.2] := by rw [hw1]; exact Row.new _ _ _
  have b1 : Below w.heap.size w w1 := by rw [hw1]; exact below_alloc _ _
  have HBR := (show Hid (Calls Tryz.prog 34 #[.int .i64 n] w1 fun e w' => e = .returned (.bool (rgt n)) ∧ w' = w1) from Bb.refRight_any w1 n)
  have HBQ := (show Hid (Calls Tryz.prog 41 #[.int .i64 n] w1 fun e w' => e = .returned (.int .i64 (quo n)) ∧ w' = w1) from Bb.refQuorum_any w1 n)
  unfold allL
  cases hrr : rgt n with
  | false =>
    rw [hrr] at HBR
    clear hrr
    go_enter Tryz.func12, Tryz.ntmps12
    go_upto_region 1 with fail
    rw [← hw1]
    clear hw1
    go_wp2_with (go_at_call 34; refine HBR.out.mono ?_; rintro e w' ⟨rfl, h'⟩; rw [h'])
    go_ret
    exact ⟨by simp, b1⟩
  | true =>
    rw [hrr] at HBR
    clear hrr
    generalize quo n = q at *
    by_cases hq2 : (ys.length : Int) = q
    case neg =>
      have d1 : ((ys.length : Int) != q) = true := by simpa using hq2
      go_enter Tryz.func12, Tryz.ntmps12
      go_upto_region 1 with fail
      rw [← hw1]
      clear hw1
      go_wp2_with (first | (go_at_call 34; refine HBR.out.mono ?_; rintro e w' ⟨rfl, h'⟩; rw [h']) | (go_at_call 41; refine HBQ.out.mono ?_; rintro e w' ⟨rfl, h'⟩; rw [h']))
      go_ret
      exact ⟨by simp [hq2], b1⟩
    subst hq2
    have HN := (show Hid (ys.length = ys.length) from rfl)
    go_enter Tryz.func12, Tryz.ntmps12
    go_upto_region 1 with fail
    rw [← hw1]
    clear hw1
    go_wp2_with (first | (go_at_call 34; refine HBR.out.mono ?_; rintro e w' ⟨rfl, h'⟩; rw [h']) | (go_at_call 41; refine HBQ.out.mono ?_; rintro e w' ⟨rfl, h'⟩; rw [h']))
    clear HBR HBQ
    go_loopw [7, 22] (fun s7 j wr => ∃ (i : Nat) (last : Int), i ≤ ys.length ∧ j = .int .i64 i ∧ s7 = .int .i64 last ∧ allW b n (-1) ys = allW b n last (ys.drop i) ∧ Below w.heap.size w wr ∧ Below w1.heap.size w1 wr) (fun _ j _ => ys.length - (intOf j).toNat)
    case atStart => exact ⟨0, -1, by omega, rfl, rfl, rfl, b1, Below.refl _ _⟩
    case round =>
      obtain ⟨n0, last, hi, rfl, rfl, hW, hB, hB1⟩ := hrel
      by_cases hnl : n0 < ys.length
      case neg =>
        rw [List.drop_of_length_le (by omega)] at hW
        have HW := (show Hid (_ = _) from hW)
        clear hW
        go_wp2_with fail
        go_ret
        exact ⟨by rw [HW.out]; simp [allW], hB⟩
      obtain ⟨A, hA⟩ : ∃ A, ys[n0]? = some A := ⟨_, List.getElem?_eq_getElem hnl⟩
      obtain ⟨bv, off, cap, hve, _, _, _, hbv, hat⟩ := hvs.at (by omega)
      obtain ⟨rvv, _, hrng, rd, rs, rp, rg, rfl, t1, t2, t3, t4⟩ := hat n0 _ hA
      injection hve with hv1 hv2 hv3
      subst hv1 hv3
      clear hv2 hat
      have hrng := rangeAt_block hrng (hB.block bv hbv)
      have hrow0 := Row.new wr 28 [.int .i64 0, .int .i64 0, .int .i64 0, .int .i64 0, .slice none 0 0, .slice none 0 0, .slice none 0 0, .slice none 0 0]
      have hon := one_RRep (G := Any) (w := w) (x := A) ⟨rd, rs, rp, rg, rfl, t1, t2, t3, t4⟩
      go_upto_region 7 with (first
        | (refine wpList_load_mid rfl _ _ rfl bv (off + n0 * 8) rfl [.int .i64 A.1.1, .int .i64 A.1.2, .int .i64 A.2.1, .int .i64 A.2.2.1, rd, rs, rp, rg] _ hrng Tryz.underlying28 rfl (by kernel_rfl) ?_)
        | (refine wl_store rfl _ _ _ rfl wr.heap.size [.int .i64 A.1.1, .int .i64 A.1.2, .int .i64 A.2.1, .int .i64 A.2.2.1, rd, rs, rp, rg] rfl rfl _ _ hrow0 rfl (by kernel_rfl) hon ?_; intro w8 rR g8))
      have b8 : Below wr.heap.size wr w8 := (below_alloc wr (.cells ([.int .i64 0, .int .i64 0, .int .i64 0, .int .i64 0, .slice none 0 0, .slice none 0 0, .slice none 0 0, .slice none 0 0] : List Value).toArray 28)).trans (grown_below g8 (by simp) (fun k hk => by cases hk; exact Nat.le_refl _))
      have rR := rR.out
      have hB8 := below_and hB (Nat.le_refl _) b8
      obtain ⟨cR, hcR⟩ : ∃ c, c = wr.heap.size := ⟨_, rfl⟩
      rw [← hcR] at rR ⊢
      clear hrow0 g8 hrng hon
      clear hcR
      have hst : ys.drop n0 = A :: ys.drop (n0 + 1) := List.drop_eq_getElem_cons hnl ▸ by rw [(List.getElem?_eq_some_iff.1 hA).2]
      rw [hst] at hW
      have HW := (show Hid (_ = _) from hW)
      have hWu : allW b n last (A :: ys.drop (n0 + 1)) = (decide (last < A.2.1) && decide (A.1 = b) && rgtR n A && allW b n A.2.1 (ys.drop (n0 + 1))) := rfl
      have HWU := (show Hid (_ = _) from hWu)
      have hRt := refRightR_any w8 [.int .i64 A.1.1, .int .i64 A.1.2, .int .i64 A.2.1, .int .i64 A.2.2.1, rd, rs, rp, rg] A n (mov_rep _ _ _ _ _ _ (⟨_, _, _, _, rfl, t1, t2, t3, t4⟩ : RRep Any w [.int .i64 A.1.1, .int .i64 A.1.2, .int .i64 A.2.1, .int .i64 A.2.2.1, rd, rs, rp, rg] A) hB8.size (Mv.below hB8)) (hq A (List.mem_of_getElem? hA)) (hbx A (List.mem_of_getElem? hA))
      have HRt := (show Hid (Calls Tryz.prog 9 #[.agg #[.int .i64 A.1.1, .int .i64 A.1.2, .int .i64 A.2.1, .int .i64 A.2.2.1, rd, rs, rp, rg], .int .i64 n] w8 fun e w' => e = .returned (.bool (rgtR n A)) ∧ Below w8.heap.size w8 w') from hRt)
      have hNe : ∀ u, (binOp .neq 23 (.agg #[.int .i64 A.1.1, .int .i64 A.1.2]) (.agg #[.int .i64 b.1, .int .i64 b.2])).run Tryz.prog u = .ok (.bool (!decide (A.1 = b))) u := fun u => by
        have e : (A.1.1 == b.1 && A.1.2 == b.2) = decide (A.1 = b) := by
          rw [Bool.eq_iff_iff]
          simp only [Bool.and_eq_true, beq_iff_eq, decide_eq_true_eq]
          constructor
          · rintro ⟨h1, h2⟩; exact Prod.ext h1 h2
          · rintro rfl; exact ⟨rfl, rfl⟩
        rw [balNe, e]
      have hB18 := below_and hB1 (Nat.le_refl _) b8
      have r8 := r1.below hB18
      have c2 := rR.cell (j := 2) rfl
      clear hst hA hW hWu hRt t1 t2 t3 t4 hB hB1 b8
      by_cases h1 : A.2.1 ≤ last
      case pos =>
        have d1 : decide (A.2.1 ≤ last) = true := by simpa using h1
        go_wp2_with fail
        go_ret
        exact ⟨by rw [HW.out, HWU.out, show decide (last < A.2.1) = false by simp; omega]; simp, hB8⟩
      have d1 : decide (A.2.1 ≤ last) = false := by simpa using h1
      have dl : decide (last < A.2.1) = true := by simp; omega
      generalize hbb : decide (A.1 = b) = bb at *
      clear hbb
      cases bb with
      | false =>
        go_wp2_with (first
        | (refine wl_part_w (by rfl) _ _ rfl cR 0 rfl _ _ rR [.int .i64 A.1.1, .int .i64 A.1.2] rfl _ Tryz.underlying23 rfl (by kernel_rfl) ?_)
        | (refine wl_part_w (by rfl) _ _ rfl w.heap.size 0 rfl _ _ r8 [.int .i64 b.1, .int .i64 b.2] rfl _ Tryz.underlying23 rfl (by kernel_rfl) ?_))
        go_ret
        exact ⟨by rw [HW.out, HWU.out]; simp, hB8⟩
      | true =>
        cases hr : rgtR n A with
        | false =>
          rw [hr] at HRt
          go_wp2_with (first
        | (refine wl_part_w (by rfl) _ _ rfl cR 0 rfl _ _ rR [.int .i64 A.1.1, .int .i64 A.1.2] rfl _ Tryz.underlying23 rfl (by kernel_rfl) ?_)
        | (refine wl_part_w (by rfl) _ _ rfl w.heap.size 0 rfl _ _ r8 [.int .i64 b.1, .int .i64 b.2] rfl _ Tryz.underlying23 rfl (by kernel_rfl) ?_)
            | (refine wl_load_w (by rfl) _ _ rfl cR rfl _ _ rR _ Tryz.underlying28 rfl (by kernel_rfl) ?_)
            | (go_at_call 9; refine HRt.out.mono ?_; rintro e wx ⟨rfl, bx⟩))
          go_ret
          exact ⟨by rw [HW.out, HWU.out, hr]; simp, below_and hB8 (Nat.le_refl _) bx⟩
        | true =>
          rw [hr] at HRt
          go_wp2_with (first
        | (refine wl_part_w (by rfl) _ _ rfl cR 0 rfl _ _ rR [.int .i64 A.1.1, .int .i64 A.1.2] rfl _ Tryz.underlying23 rfl (by kernel_rfl) ?_)
        | (refine wl_part_w (by rfl) _ _ rfl w.heap.size 0 rfl _ _ r8 [.int .i64 b.1, .int .i64 b.2] rfl _ Tryz.underlying23 rfl (by kernel_rfl) ?_)
            | (refine wl_load_w (by rfl) _ _ rfl cR rfl _ _ rR _ Tryz.underlying28 rfl (by kernel_rfl) ?_)
            | (go_at_call 9; refine HRt.out.mono ?_; rintro e wx ⟨rfl, bx⟩; have cx2 := (rR.below bx).cell (j := 2) rfl))
          go_roundw
          case rel => exact ⟨n0 + 1, A.2.1, by omega, by go_num, rfl, by rw [HW.out, HWU.out, hr, dl]; rfl, below_and hB8 (Nat.le_refl _) bx, below_and hB18 (Nat.le_refl _) bx⟩
          case measure => simp [intOf]; omega
end
section
open Go.RowKit Oct Bal
theorem Tryz.infRepC : (Tryz.prog.info? 28).map (fun i => (i.zero, i.size, i.bytes)) = some (some (.agg #[.int .i64 0, .int .i64 0, .int .i64 0, .int .i64 0, .slice none 0 0, .slice none 0 0, .slice none 0 0, .slice none 0 0]), 8, 128) := by kernel_rfl
set_option maxRecDepth 10000 in
set_option maxHeartbeats 8000000 in
theorem allsL_any (W : World) (b : PBal) (vv : Value) (ys : List PRep) (n0 : Int) (hvs : RL RRep 8 Any W vv ys) (hz : szL 128 szR ys) (hq : ∀ r ∈ ys, okQ r) (hbx : ∀ r ∈ ys, bR r ≤ 1050000) (hT : Tab W) :
    Calls Tryz.prog 4 #[.agg #[.int .i64 b.1, .int .i64 b.2], vv, .int .i64 n0] W fun e w' => e = .returned (.bool true) ∧ Below W.heap.size W w' := by
  obtain ⟨aa, ca, rfl, _⟩ := hvs.form
  have hlv := len_rep hvs
  obtain ⟨w0, hw0⟩ : ∃ u, u = W.alloc (.cells #[.int .i64 b.1, .int .i64 b.2] 23) := ⟨_, rfl⟩
  have r0 : Row w0 W.heap.size 23 [.int .i64 b.1, .int .i64 b.2] := by rw [hw0]; exact Row.new _ _ _
  have BW0 : Below W.heap.size W w0 := by rw [hw0]; exact below_alloc _ _
  have hvs := hvs.mv mov_rep BW0.size (Mv.below BW0)
  have hT0 := hT.below BW0
  go_enter Tryz.func4, Tryz.ntmps4
  go_upto_region 1 with fail
  rw [← hw0]
  clear hw0
  go_upto_region 3 with (go_at_call 6; refine (chooseAlive_any w0).mono ?_; rintro e w1 ⟨rfl, b1⟩)
  have HR0 := (show Hid (Row w0 W.heap.size 23 [.int .i64 b.1, .int .i64 b.2]) from r0)
  clear r0 hT
  obtain ⟨w2, hw2⟩ : ∃ u, u = w1.alloc (.cells #[] 28) := ⟨_, rfl⟩
  have b2 : Below w1.heap.size w1 w2 := by rw [hw2]; exact below_alloc _ _
  have hL2 := LB.fresh RRep 28 8 w1.heap.size w1 (Nat.le_refl _)
  rw [← hw2] at hL2
  go_upto_region 4 with fail
  rw [← hw2]
  clear hw2
  have BW2 := below_and b1 (Nat.le_refl _) b2
  have hs1 := b1.size
  have hlen128 := hz.1
  have b2s := b2.size
  clear b1 b2
  go_wp2_with fail
  go_loopw [7, 15] (fun l j wr => ∃ n : Nat, n ≤ ys.length ∧ j = .int .i64 n ∧ LB RRep 28 8 w1.heap.size wr l (ys.take n) ∧ Below w0.heap.size w0 wr ∧ w1.heap.size ≤ wr.heap.size) (fun _ j _ => ys.length - (intOf j).toNat)
  case atStart => exact ⟨0, by omega, rfl, hL2, BW2, b2s⟩
  case round =>
    clear hL2 BW2
    obtain ⟨n, hn, rfl, hL, hB, hsz⟩ := hrel
    obtain ⟨PL, hPL⟩ : ∃ PL, PL = ys.take n := ⟨_, rfl⟩
    have hln : PL.length = n := by rw [hPL, List.length_take]; omega
    rw [← hPL] at hL
    have HPL := (show Hid (PL = ys.take n ∧ PL.length = n) from ⟨hPL, hln⟩)
    clear hPL hln
    obtain ⟨la, lc, rfl⟩ := hL.fmC
    by_cases hnl : n < ys.length
    case pos =>
      obtain ⟨A, hA⟩ : ∃ A, ys[n]? = some A := ⟨_, List.getElem?_eq_getElem hnl⟩
      obtain ⟨bv, off, cap, hve, _, _, _, hbv, hat⟩ := hvs.at (by omega)
      obtain ⟨rvv, _, hrng, rd, rs, rp, rg, rfl, t1, t2, t3, t4⟩ := hat n _ hA
      injection hve with hv1 hv2 hv3
      subst hv1 hv3
      clear hv2 hat
      have hrng := rangeAt_block hrng (hB.block bv hbv)
      have hrow0 := Row.new wr 28 [.int .i64 0, .int .i64 0, .int .i64 0, .int .i64 0, .slice none 0 0, .slice none 0 0, .slice none 0 0, .slice none 0 0]
      have hon := one_RRep (G := Any) (w := w0) (x := A) ⟨rd, rs, rp, rg, rfl, t1, t2, t3, t4⟩
      go_upto_region 7 with (first
        | (refine wpList_load_mid rfl _ _ rfl bv (off + n * 8) rfl [.int .i64 A.1.1, .int .i64 A.1.2, .int .i64 A.2.1, .int .i64 A.2.2.1, rd, rs, rp, rg] _ hrng Tryz.underlying28 rfl (by kernel_rfl) ?_)
        | (refine wl_store rfl _ _ _ rfl wr.heap.size [.int .i64 A.1.1, .int .i64 A.1.2, .int .i64 A.2.1, .int .i64 A.2.2.1, rd, rs, rp, rg] rfl rfl _ _ hrow0 rfl (by kernel_rfl) hon ?_; intro w8 rR g8))
      have b8 : Below wr.heap.size wr w8 := (below_alloc wr (.cells ([.int .i64 0, .int .i64 0, .int .i64 0, .int .i64 0, .slice none 0 0, .slice none 0 0, .slice none 0 0, .slice none 0 0] : List Value).toArray 28)).trans (grown_below g8 (by simp) (fun k hk => by cases hk; exact Nat.le_refl _))
      have rR := rR.out
      have hB8 := below_and hB (Nat.le_refl _) b8
      obtain ⟨cR, hcR⟩ : ∃ c, c = wr.heap.size := ⟨_, rfl⟩
      rw [← hcR] at rR ⊢
      clear hrow0 g8 hrng hon
      clear hcR
      have hcp := copyReport_any w8 [.int .i64 A.1.1, .int .i64 A.1.2, .int .i64 A.2.1, .int .i64 A.2.2.1, rd, rs, rp, rg] A ⟨_, _, _, _, rfl, t1.mv (Mv.below hB8), t2.mv mov_vote hB8.size (Mv.below hB8), t3.mv mov_prep hB8.size (Mv.below hB8), t4.mv (Mv.below hB8)⟩ (hz.2 A (List.mem_of_getElem? hA))
      have hst : ys.take (n + 1) = PL ++ [A] := by rw [List.take_add_one, hA, HPL.out.1]; rfl
      have HST := (show Hid (_ = _) from hst)
      have hL8 := hL.below mov_rep b8
      have hLlt := hL8.lt
      have h8s : w1.heap.size ≤ w8.heap.size := Nat.le_trans hsz b8.size
      clear hst hA b8 hL t1 t2 t3 t4 hB
      go_wp2_with (first
        | (refine wl_load rfl _ _ rfl cR rfl _ _ rR _ Tryz.underlying28 rfl (by kernel_rfl) ?_)
        | (go_at_call 7; refine hcp.mono ?_; rintro e w9 ⟨r9, rfl, hr9, b9⟩; have hL9 := hL8.below mov_rep b9; have h9s := b9.size; have hone := one_RRep hr9; obtain ⟨xd, xs, xp, xg, rfl, f1, f2, f3, f4⟩ := hr9)
        | (at_builtin; go_loud (refine wl_pushS mov_rep rfl _ _ _ rfl 28 8 128 _ Tryz.underlying33 Tryz.infRepC rfl (by decide) w1.heap.size (.slice la PL.length lc) PL rfl hL9 [.int .i64 A.1.1, .int .i64 A.1.2, .int .i64 A.2.1, .int .i64 A.2.2.1, xd, xs, xp, xg] A w8.heap.size ⟨_, _, _, _, rfl, f1, f2, f3, f4⟩ rfl hone h8s hLlt rfl (Nat.le_trans h8s h9s) (by have := HPL.out.2; omega) (by decide) ?_; intro v7 w7 hL7 g7 hS7)))
      have hBx := below_and hB8 (Nat.le_refl _) b9
      have hB7 := hBx.trans (grown_below g7 hBx.size (fun q hq => by have := hL9.fr q hq; omega))
      go_roundw
      case rel => exact ⟨n + 1, by omega, by go_num, by rw [HST.out]; exact hL7, hB7, Nat.le_trans (Nat.le_trans h8s h9s) g7.size⟩
      case measure => simp [intOf]; omega
    have hPe : PL = ys := by rw [HPL.out.1]; exact List.take_of_length_le (by omega)
    subst hPe
    clear HPL
    obtain ⟨w5, hw5⟩ : ∃ u : World, u = wr := ⟨_, rfl⟩
    subst hw5
    have hOw : RL RRep 8 Any w5 (.slice la PL.length lc) PL := (hL.rl mov_rep).mv mov_rep (Nat.le_refl _) Mv.any
    have hLy := hvs.mv mov_rep hB.size (Mv.below hB)
    have hT5 := hT0.below hB
    have HC := (show Hid (∀ u, Below w5.heap.size w5 u → Row u W.heap.size 23 [.int .i64 b.1, .int .i64 b.2]) from fun u hu => (HR0.out.below hB).below hu)
    have HA1 := (show Hid (∀ u, Below w5.heap.size w5 u → Calls Tryz.prog 11 #[.agg #[.int .i64 b.1, .int .i64 b.2], .slice la PL.length lc, .int .i64 n0] u fun e w' => e = .returned (.bool (allL b n0 PL)) ∧ Below u.heap.size u w') from fun u hu => allC_any u b _ PL n0 (hOw.mv mov_rep hu.size (Mv.below hu)) hq (hT5.below hu))
    have HA2 := (show Hid (∀ u, Below w5.heap.size w5 u → Calls Tryz.prog 12 #[.agg #[.int .i64 b.1, .int .i64 b.2], .slice aa PL.length ca, .int .i64 n0] u fun e w' => e = .returned (.bool (allL b n0 PL)) ∧ Below u.heap.size u w') from fun u hu => refAllR_any u b _ PL n0 (hLy.mv mov_rep hu.size (Mv.below hu)) hq hbx)
    have B0 : Below w5.heap.size w5 w5.drew := ⟨rfl, rfl, rfl, Nat.le_refl _, fun _ _ => rfl⟩
    generalize allL b n0 PL = rr at *
    clear hOw hLy hT5 hL hvs hz hq hbx HR0 hT0 hlen128
    go_upto_region 9 with fail
    try go_simp
    refine wp_region_held_drew (S := fun u => Below w5.heap.size w5 u) (by kernel_rfl) B0 (fun hHeld => ?_)
    clear hHeld
    refine wpAnyH_take (i := 0) (v := .agg #[.int .i64 b.1, .int .i64 b.2]) rfl (by kernel_rfl) (by kernel_rfl) (by kernel_rfl) (fun _ _ _ h => h) (yieldsIf_load_mid (by kernel_rfl) _ _ rfl W.heap.size 0 (by go_simp) [.int .i64 b.1, .int .i64 b.2] _ (fun u hSu => (HC.out u hSu).mid 0 rfl) Tryz.underlying23 rfl (by kernel_rfl)) B0 ?_
    simp only [Act.put, List.setIfInBounds_toArray, List.set_cons_zero, List.set_cons_succ]
    refine wpAnyH_take (i := 1) (v := .slice la PL.length lc) rfl (by kernel_rfl) (by kernel_rfl) (by kernel_rfl) (fun _ _ _ h => h) (Or.inl ⟨by kernel_rfl, fun u hSu => by go_simp⟩) B0 ?_
    simp only [Act.put, List.setIfInBounds_toArray, List.set_cons_zero, List.set_cons_succ]
    refine wpAnyH_take (i := 2) (v := .int .i64 n0) rfl (by kernel_rfl) (by kernel_rfl) (by kernel_rfl) (fun _ _ _ h => h) (Or.inl ⟨by kernel_rfl, fun u hSu => by go_simp⟩) B0 ?_
    simp only [Act.put, List.setIfInBounds_toArray, List.set_cons_zero, List.set_cons_succ]
    refine wpAnyH_take (i := 4) (v := .agg #[.int .i64 b.1, .int .i64 b.2]) rfl (by kernel_rfl) (by kernel_rfl) (by kernel_rfl) (fun _ _ _ h => h) (yieldsIf_load_mid (by kernel_rfl) _ _ rfl W.heap.size 0 (by go_simp) [.int .i64 b.1, .int .i64 b.2] _ (fun u hSu => (HC.out u hSu).mid 0 rfl) Tryz.underlying23 rfl (by kernel_rfl)) B0 ?_
    simp only [Act.put, List.setIfInBounds_toArray, List.set_cons_zero, List.set_cons_succ]
    refine wpAnyH_take (i := 5) (v := .slice aa PL.length ca) rfl (by kernel_rfl) (by kernel_rfl) (by kernel_rfl) (fun _ _ _ h => h) (Or.inl ⟨by kernel_rfl, fun u hSu => by go_simp⟩) B0 ?_
    simp only [Act.put, List.setIfInBounds_toArray, List.set_cons_zero, List.set_cons_succ]
    refine wpAnyH_take (i := 6) (v := .int .i64 n0) rfl (by kernel_rfl) (by kernel_rfl) (by kernel_rfl) (fun _ _ _ h => h) (Or.inl ⟨by kernel_rfl, fun u hSu => by go_simp⟩) B0 ?_
    simp only [Act.put, List.setIfInBounds_toArray, List.set_cons_zero, List.set_cons_succ]
    refine wpAnyH_ready (rs := [3]) (by kernel_rfl) (by simp) ?_
    refine AllReadyH.cons (o := _) rfl (fun K hK => ?_) AllReadyH.nil
    go_simp
    refine (HA1.out _ B0).mono ?_
    rintro e wa ⟨rfl, ba⟩
    have Ba := below_and B0 (Nat.le_refl _) ba
    try go_simp
    refine hK.out _ _ Ba (fun hHeld => ?_)
    clear hK K hHeld
    refine wpAnyH_ready (rs := [7]) (by kernel_rfl) (by simp) ?_
    refine AllReadyH.cons (o := _) rfl (fun K hK => ?_) AllReadyH.nil
    go_simp
    refine (HA2.out _ Ba).mono ?_
    rintro e wb ⟨rfl, bb⟩
    have Bb := below_and Ba (Nat.le_refl _) bb
    try go_simp
    refine hK.out _ _ Bb (fun hHeld => ?_)
    clear hK K hHeld
    refine wpAnyH_take (i := 8) (v := .bool true) rfl (by kernel_rfl) (by kernel_rfl) (by kernel_rfl) (fun _ _ _ h => h) (Or.inl ⟨by kernel_rfl, fun u hSu => by go_simp⟩) Bb ?_
    simp only [Act.put, List.setIfInBounds_toArray, List.set_cons_zero, List.set_cons_succ]
    refine wpAnyH_ready (rs := [9]) (by kernel_rfl) (by simp) ?_
    refine AllReadyH.cons (o := _) rfl (fun K hK => ?_) AllReadyH.nil
    go_simp
    refine hK.out _ _ Bb (fun hHeld => ?_)
    clear hK K hHeld
    refine wpAnyH_done (by kernel_rfl) ?_ _
    go_wp2_with fail
    go_ret
    exact ⟨rfl, below_and (below_and BW0 (Nat.le_refl _) hB) (Nat.le_refl _) Bb⟩
end
end Go.Proofs.YtgbfmccecnfooaaGreatDoor
