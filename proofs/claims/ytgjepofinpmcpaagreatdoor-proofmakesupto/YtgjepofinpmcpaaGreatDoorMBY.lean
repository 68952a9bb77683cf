/- catenarylaw16.ProofMakes: its walk. -/
import Derived.Test.YtgjepofinpmcpaaGreatDoorMBQ
import Derived.Test.YtgjepofinpmcpaaGreatDoorMBS
import Derived.Test.YtgjepofinpmcpaaGreatDoorMBX
import Derived.Test.YtgjepofinpmcpaaGreatDoorMBW
import Derived.Test.YtgjepofinpmcpaaGreatDoorMBU
import Derived.Test.YtgjepofinpmcpaaGreatDoorMBF
set_option linter.unusedSimpArgs false
set_option linter.unusedVariables false
namespace Go.Proofs.YtgjepofinpmcpaaGreatDoor
section
open Go.RowKit Oct Kvl
set_option maxRecDepth 10000 in
set_option maxHeartbeats 4000000 in
theorem zNb (w : World) (m : PMsg) (s : SV) (hs : SOk Any w m s) (hz : bM m ≤ 1100000) : Calls Tryz.prog 14 #[.agg (mc m s).toArray] w (MkP m w) := by
  obtain ⟨w1, hw1, r1, B1⟩ := boxP w m s
  have HE := zK3 w1 m s (hs.below B1) hz
  have HL := (show Hid (mkL m = (decide (zCr m = 0) && zF5 (zEj m) 16)) from rfl)
  have HY := (show Hid (mkL m = true → mkB m = zEj m ∧ mkE m = 0) from zLy)
  go_enter Tryz.func14, Tryz.ntmps14
  go_upto_region 1 with fail
  rw [← hw1]
  clear hw1
  go_upto_region 2 with (first
    | (refine zAa rfl _ _ rfl w.heap.size rfl _ _ r1 _ Tryz.underlying40 rfl (by kernel_rfl) ?_)
    | (go_at_call 31; refine HE.mono ?_; rintro e w2 ⟨v2, rfl, o2, b2⟩))
  have B2 := zA1 B1 zN b2
  have R2 : RT Any w2 v2 (zEj m) := ⟨o2, fun _ _ _ => trivial⟩
  have HC := zLx w2 v2 (zEj m) R2 16
  clear HE r1 B1 b2 o2 hs
  by_cases h0 : zCr m = 0
  case neg =>
    have hN : mkL m = false := by rw [HL.out, decide_eq_false h0]; rfl
    have h0' : (zCr m != 0) = true := by simpa using h0
    have HP := (show Hid (MkP m w (.returned (.tuple #[.slice none 0 0, .int .i64 161])) w2) from MkP.no hN B2)
    generalize zCr m = E at *
    clear HC HL HY hN R2
    go_wp2_with fail
    go_ret2
    exact HP.out
  rw [decide_eq_true h0, Bool.true_and] at HL
  rw [h0]
  clear h0
  cases hK : zF5 (zEj m) 16 with
  | false =>
    have hN : mkL m = false := by rw [HL.out, hK]
    have HP := (show Hid (∀ w', Below w.heap.size w w' → MkP m w (.returned (.tuple #[.slice none 0 0, .int .i64 161])) w') from fun w' => MkP.no hN)
    unfold CkP at HC
    rw [(zFa hK).1, (zFa hK).2] at HC
    clear HL HY hN R2 hK
    go_wp2_with (go_at_call 10; refine HC.mono ?_; rintro e w3 ⟨rfl, b3⟩)
    go_ret2
    exact HP.out _ (zA1 B2 zN b3)
  | true =>
    have hN : mkL m = true := by rw [HL.out, hK]
    have hY := HY.out hN
    have HP := (show Hid (∀ w', Below w2.heap.size w2 w' → MkP m w (.returned (.tuple #[v2, .int .i64 0])) w') from fun w' hb => ⟨v2, by rw [hY.2], by rw [hY.1]; exact R2.mv (Mv.below hb), zA1 B2 zN hb⟩)
    unfold CkP at HC
    rw [(zGs hK).2] at HC
    generalize zQi (zEj m) 16 = W1 at *
    clear HL HY hN R2 hK hY
    go_wp2_with (go_at_call 10; refine HC.mono ?_; rintro e w3 ⟨rfl, b3⟩)
    go_ret2
    exact HP.out _ b3
end
section
open Go.RowKit Oct Kvl
theorem mk_chk {m : PMsg} (h : mkL m = true) : zQi (zEj m) 16 = m.frm ∧ zRp (zEj m) 16 = 0 := by
  unfold mkL at h
  rw [Bool.and_eq_true] at h
  obtain ⟨h0, h1⟩ := h
  have h0 : zCr m = 0 := of_decide_eq_true h0
  obtain ⟨a, b⟩ := zGs h1
  refine ⟨?_, b⟩
  rw [a]
  cases hb : zFi m with
  | true => rw [show zCr m = 51 by unfold zCr; rw [if_pos hb]] at h0; exact absurd h0 (by decide)
  | false =>
    have hl : ¬ 1048576 < (byM m).length := fun h => by
      unfold zCr at h0
      rw [if_neg (by rw [hb]; decide), if_pos h] at h0
      exact absurd h0 (by decide)
    have e : zEj m = byM m := by unfold zEj; rw [if_pos h0]
    rw [e, (zSi hb (by omega)).2]
set_option maxRecDepth 10000 in
set_option maxHeartbeats 4000000 in
theorem zNw (W : World) (m : PMsg) (s : SV) (hs : SOk Any W m s) (hz : bM m ≤ 1048576) (hT : Tab W) : Calls Tryz.prog 5 #[.agg (mc m s).toArray] W fun e w' => e = .returned (.bool true) ∧ Below W.heap.size W w' := by
  have hz' : bM m ≤ 1100000 := by omega
  have hzc := szM_bM hz'
  obtain ⟨w1, hw1, r1, B1⟩ := boxP W m s
  have HA := proofAlive_any w1 (hT.below B1)
  go_enter Tryz.func5, Tryz.ntmps5
  go_upto_region 1 with fail
  rw [← hw1]
  clear hw1
  go_upto_region 3 with (go_at_call 8; refine HA.mono ?_; rintro e w2 ⟨rfl, b2⟩)
  have r2 := r1.below b2
  have B2 := zA1 B1 zN b2
  have HC := zNy w2 m s (hs.below B2) hzc
  have HM := (show Hid (∀ u s', Below w2.heap.size w2 u → SOk Any u m s' → Calls Tryz.prog 12 #[.agg (mc m s').toArray] u (MkP m u)) from fun u s' hu hs' => zP1 u m s' hs' ((hT.below B2).below hu))
  clear HA r1 B1 b2 hzc
  go_upto_region 4 with (first
    | (go_at_call 12; refine (HM.out w3 s3 b3 (hs3.mv zN Mv.any)).mono ?_; rintro e w4 ⟨v4, rfl, t4, b4⟩)
    | (go_at_call 13; refine HC.mono ?_; rintro e w3 ⟨s3, rfl, hs3, b3⟩)
    | (refine zAa rfl _ _ rfl W.heap.size rfl _ _ r2 _ Tryz.underlying40 rfl (by kernel_rfl) ?_))
  have B4 := zA1 (zA1 B2 zN b3) zN b4
  have r4 := (r2.below b3).below b4
  have HR := zNb w4 m s (hs.below B4) hz'
  clear HC HM r2 B2 hs3 b3 b4
  go_upto_region 5 with (first
    | (go_at_call 14; refine HR.mono ?_; rintro e w5 ⟨v5, rfl, t5, b5⟩)
    | (refine zAa rfl _ _ rfl W.heap.size rfl _ _ r4 _ Tryz.underlying40 rfl (by kernel_rfl) ?_))
  have B5 := zA1 B4 zN b5
  have r5 := r4.below b5
  have t4 := t4.mv (Mv.below b5)
  have HS := zKv w5 v4 v5 (mkB m) (mkB m) t4.1 t5.1
  rw [decide_eq_true rfl] at HS
  have HK := zGb w5 v4 (mkB m) t4 16 (hT.below B5)
  clear HR r4 B4 b5 t5 hs hz hz' hT
  unfold CkP at HK
  cases hL : mkL m with
  | false =>
    rw [(mk_no hL).2]
    generalize zQi (mkB m) 16 = X at *
    generalize zRp (mkB m) 16 = Y at *
    clear hL
    go_upto_region 7 with (go_at_call 11; refine HS.mono ?_; rintro e w6 ⟨rfl, h6⟩; have h6 := h6.symm; subst h6)
    go_wp2_with (go_at_call 9; refine HK.mono ?_; rintro e w7 ⟨rfl, b7⟩)
    go_ret
    exact ⟨rfl, zA1 B5 zN b7⟩
  | true =>
    have hB := (zLy hL).1
    rw [(zLy hL).2]
    rw [hB, (mk_chk hL).1, (mk_chk hL).2] at HK
    clear hL hB t4
    go_upto_region 7 with (go_at_call 11; refine HS.mono ?_; rintro e w6 ⟨rfl, h6⟩; have h6 := h6.symm; subst h6)
    go_upto_region 8 with (go_at_call 9; refine HK.mono ?_; rintro e w7 ⟨rfl, b7⟩)
    have c4 := (r5.below b7).cell (j := 4) rfl
    go_wp2_with fail
    go_ret
    exact ⟨by simp, zA1 B5 zN b7⟩
end
end Go.Proofs.YtgjepofinpmcpaaGreatDoor
