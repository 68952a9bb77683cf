/- PROVED HERE: at all arguments catenarylaw15.LedgerCuts returns true and leaves its arguments as they were (the statement LedgerCutsUptoCardSaid); under one condition: what comes in holds at most 1048576 values and letters; the table sha.constants is laid by the program text, the card ties it. -/
import Derived.Test.YtajmgpgjkalfkaaDoorJI
import Derived.Test.YtajmgpgjkalfkaaDoorJA
import Derived.Test.YtajmgpgjkalfkaaDoorRows
import Derived.Test.YtajmgpgjkalfkaaDoorJJ
import Derived.Test.YtajmgpgjkalfkaaDoorCards
import Derived.Test.YtajmgpgjkalfkaaDoorTie
import Derived.Deep.DeepHandedRow
import Derived.JoinedCond
section
set_option linter.unusedVariables false
set_option linter.unusedSimpArgs false
namespace Go.Proofs.YtajmgpgjkalfkaaDoor
open Go.RowKit Oct Kvl

set_option maxRecDepth 10000 in
set_option maxHeartbeats 4000000 in
theorem cutsLg_any (W : World) (x y s0 s1 : Int) (o0 p0 o1 p1 : Value) (r0 r1 : PReq) (t0 : RT Any W o0 r0.2.2.1) (u0 : RT Any W p0 r0.2.2.2) (t1 : RT Any W o1 r1.2.2.1) (u1 : RT Any W p1 r1.2.2.2) (z0 : tot [r0.2.2.1, r0.2.2.2] ≤ 2000000) (z1 : tot [r1.2.2.1, r1.2.2.2] ≤ 2000000)
    (hbd : body r0 = body r1 → r0 = r1) (hT : Tab W) :
    Calls Tryd.prog 7 #[.agg #[.int .i64 x, .int .i64 y], .agg #[.int .i64 s0, .int .i64 s1], .agg #[.int .i64 r0.1, .int .i64 r0.2.1, o0, p0, .int .i64 r1.1, .int .i64 r1.2.1, o1, p1]] W fun e w' => e = .returned (.bool true) ∧ Below W.heap.size W w' := by
  obtain ⟨ao0, co0, rfl, _⟩ := t0.form
  obtain ⟨ap0, cp0, rfl, _⟩ := u0.form
  obtain ⟨ao1, co1, rfl, _⟩ := t1.form
  obtain ⟨ap1, cp1, rfl, _⟩ := u1.form
  obtain ⟨w1, hw1⟩ : ∃ w1, w1 = W.alloc (.cells #[.int .i64 x, .int .i64 y] 28) := ⟨_, rfl⟩
  obtain ⟨w2, hw2⟩ : ∃ w2, w2 = w1.alloc (.cells #[.int .i64 s0, .int .i64 s1] 60) := ⟨_, rfl⟩
  obtain ⟨w3, hw3⟩ : ∃ w3, w3 = w2.alloc (.cells #[.int .i64 r0.1, .int .i64 r0.2.1, .slice ao0 r0.2.2.1.length co0, .slice ap0 r0.2.2.2.length cp0, .int .i64 r1.1, .int .i64 r1.2.1, .slice ao1 r1.2.2.1.length co1, .slice ap1 r1.2.2.2.length cp1] 51) := ⟨_, rfl⟩
  have e1 : w1.heap.size = W.heap.size + 1 := by rw [hw1]; simp
  have e2 : w2.heap.size = W.heap.size + 2 := by rw [hw2]; simp [e1]
  have B1 : Below W.heap.size W w1 := by rw [hw1]; exact below_alloc _ _
  have B2 : Below w1.heap.size w1 w2 := by rw [hw2]; exact below_alloc _ _
  have B3 : Below w2.heap.size w2 w3 := by rw [hw3]; exact below_alloc _ _
  have ra : Row w1 W.heap.size 28 [.int .i64 x, .int .i64 y] := by rw [hw1]; exact Row.new _ _ _
  have rb : Row w2 (W.heap.size + 1) 60 [.int .i64 s0, .int .i64 s1] := by rw [hw2, ← e1]; exact Row.new _ _ _
  have rc : Row w3 (W.heap.size + 2) 51 [.int .i64 r0.1, .int .i64 r0.2.1, .slice ao0 r0.2.2.1.length co0, .slice ap0 r0.2.2.2.length cp0, .int .i64 r1.1, .int .i64 r1.2.1, .slice ao1 r1.2.2.1.length co1, .slice ap1 r1.2.2.2.length cp1] := by rw [hw3, ← e2]; exact Row.new _ _ _
  have ra := (ra.below B2).below B3
  have rb := rb.below B3
  have BW : Below W.heap.size W w3 := below_and (below_and B1 (Nat.le_refl _) B2) (Nat.le_refl _) B3
  have hw : w3 = ((W.alloc (.cells #[.int .i64 x, .int .i64 y] 28)).alloc (.cells #[.int .i64 s0, .int .i64 s1] 60)).alloc (.cells #[.int .i64 r0.1, .int .i64 r0.2.1, .slice ao0 r0.2.2.1.length co0, .slice ap0 r0.2.2.2.length cp0, .int .i64 r1.1, .int .i64 r1.2.1, .slice ao1 r1.2.2.1.length co1, .slice ap1 r1.2.2.2.length cp1] 51) := by rw [hw3, hw2, hw1]
  clear hw1 hw2 hw3 e1 e2 B1 B2 B3
  have hT3 := hT.below BW
  go_enter Tryd.func7, Tryd.ntmps7
  go_upto_region 1 with fail
  rw [← hw]
  clear hw
  obtain ⟨cB, hcB⟩ : ∃ c, c = W.heap.size := ⟨_, rfl⟩
  obtain ⟨cS, hcS⟩ : ∃ c, c = W.heap.size + 1 := ⟨_, rfl⟩
  obtain ⟨cR, hcR⟩ : ∃ c, c = W.heap.size + 2 := ⟨_, rfl⟩
  try rw [show W.heap.size + 1 + 1 = cR from hcR.symm]
  rw [← hcS] at rb ⊢
  rw [← hcR] at rc
  rw [← hcB] at ra ⊢
  clear hcB hcS hcR
  go_upto_region 3 with (go_at_call 8; refine (ledgerAlive_any w3 hT3).mono ?_; rintro e w4 ⟨rfl, b4⟩)
  have BW := below_and BW (Nat.le_refl _) b4
  have ra := ra.below b4
  have rb := rb.below b4
  have rc := rc.below b4
  have hT4 := hT3.below b4
  clear b4 hT3
  have HSR := sameReq_any w4 [.int .i64 r0.1, .int .i64 r0.2.1, .slice ao0 r0.2.2.1.length co0, .slice ap0 r0.2.2.2.length cp0] [.int .i64 r1.1, .int .i64 r1.2.1, .slice ao1 r1.2.2.1.length co1, .slice ap1 r1.2.2.2.length cp1] r0 r1 ⟨_, _, rfl, t0.mv (Mv.below BW), u0.mv (Mv.below BW)⟩ ⟨_, _, rfl, t1.mv (Mv.below BW), u1.mv (Mv.below BW)⟩
  have k0 := rc.cell (j := 0) rfl
  have k1 := rc.cell (j := 1) rfl
  have k2 := rc.cell (j := 2) rfl
  have k3 := rc.cell (j := 3) rfl
  have k4 := rc.cell (j := 4) rfl
  have k5 := rc.cell (j := 5) rfl
  have k6 := rc.cell (j := 6) rfl
  have k7 := rc.cell (j := 7) rfl

  by_cases hr : r0 = r1
  · rw [decide_eq_true hr] at HSR
    clear hr
    go_wp2_with (go_at_call 19; refine HSR.mono ?_; rintro e w5 ⟨rfl, b5⟩)
    go_ret
    exact ⟨rfl, below_and BW (Nat.le_refl _) b5⟩
  rw [decide_eq_false hr] at HSR
  have hnb : ¬ body r0 = body r1 := fun e => hr (hbd e)
  clear hr hbd
  go_upto_region 6 with (first
    | (go_at_call 9; refine (newG_any w5).mono ?_; rintro e w6 ⟨rfl, l6, b6⟩)
    | (go_at_call 19; refine HSR.mono ?_; rintro e w5 ⟨rfl, b5⟩))
  have BW5 := below_and BW (Nat.le_refl _) b5
  have hm5 : W.heap.size ≤ w5.heap.size := BW5.size
  have BW6 := below_and BW5 (Nat.le_refl _) b6
  have ra := (ra.below b5).below b6
  have rb := (rb.below b5).below b6
  have rc := (rc.below b5).below b6
  have hT6 := (hT4.below b5).below b6
  have t0 := ((t0.mv (Mv.below BW5)).mv (toNMa (Nat.le_refl _))).mv (Mv.belowG b6)
  have u0 := ((u0.mv (Mv.below BW5)).mv (toNMa (Nat.le_refl _))).mv (Mv.belowG b6)
  have t1 := ((t1.mv (Mv.below BW5)).mv (toNMa (Nat.le_refl _))).mv (Mv.belowG b6)
  have u1 := ((u1.mv (Mv.below BW5)).mv (toNMa (Nat.le_refl _))).mv (Mv.belowG b6)

  clear k0 k1 k2 k3 k4 k5 k6 k7 HSR BW BW5 hT4 b5 b6
  generalize hm : w5.heap.size = m at *
  generalize hbb : m + 1 = b at *
  clear hm hbb
  have hmra := l6.nrow ra
  have hmrb := l6.nrow rb
  have hmrc := l6.nrow rc
  have n1 : noteL [] 2 x y s0 r0 [(3, sgn 2 x y s0 r0 3)] = ([⟨(2, x, y, s0, 3), r0, sgn 2 x y s0 r0 3, false⟩], []) := note_first (ls := []) (by decide) (by decide) rfl (by decide)
  have SK6 := (show Hid (∀ u, w6.grownBy u (some m) → u.cell? ⟨cB, 0, none⟩ = some (.int .i64 x) ∧ u.cell? ⟨cB, 1, none⟩ = some (.int .i64 y) ∧ u.cell? ⟨cS, 0, none⟩ = some (.int .i64 s0) ∧ u.cell? ⟨cS, 1, none⟩ = some (.int .i64 s1) ∧ u.cell? ⟨cR, 0, none⟩ = some (.int .i64 r0.1) ∧ u.cell? ⟨cR, 1, none⟩ = some (.int .i64 r0.2.1) ∧ u.cell? ⟨cR, 2, none⟩ = some (.slice ao0 r0.2.2.1.length co0) ∧ u.cell? ⟨cR, 3, none⟩ = some (.slice ap0 r0.2.2.2.length cp0) ∧ u.cell? ⟨cR, 4, none⟩ = some (.int .i64 r1.1) ∧ u.cell? ⟨cR, 5, none⟩ = some (.int .i64 r1.2.1) ∧ u.cell? ⟨cR, 6, none⟩ = some (.slice ao1 r1.2.2.1.length co1) ∧ u.cell? ⟨cR, 7, none⟩ = some (.slice ap1 r1.2.2.2.length cp1)) from fun u hu => ⟨(ra.grown hu hmra).cell (j := 0) rfl, (ra.grown hu hmra).cell (j := 1) rfl, (rb.grown hu hmrb).cell (j := 0) rfl, (rb.grown hu hmrb).cell (j := 1) rfl, (rc.grown hu hmrc).cell (j := 0) rfl, (rc.grown hu hmrc).cell (j := 1) rfl, (rc.grown hu hmrc).cell (j := 2) rfl, (rc.grown hu hmrc).cell (j := 3) rfl, (rc.grown hu hmrc).cell (j := 4) rfl, (rc.grown hu hmrc).cell (j := 5) rfl, (rc.grown hu hmrc).cell (j := 6) rfl, (rc.grown hu hmrc).cell (j := 7) rfl⟩)
  obtain ⟨q0, q1, q2, q3, q4, q5, q6, q7, q8, q9, q10, q11⟩ := SK6.out w6 (grown_of_below (Below.refl _ _) _)
  have hd6 := below_drew w6
  have gd6 : w6.grownBy w6.drew (some m) := grown_of_below hd6 _
  have HCP6 := (show Hid (∀ _ : Unit, _) from fun _ => copyQ_any w6.drew _ _ r0 ((t0.mv (Mv.belowG hd6)).mv Mv.any) ((u0.mv (Mv.belowG hd6)).mv Mv.any) z0)
  go_wp2_with fail
  go_region_held3 (fun u => u.cell? ⟨cB, 0, none⟩ = some (.int .i64 x) ∧ u.cell? ⟨cB, 1, none⟩ = some (.int .i64 y) ∧ u.cell? ⟨cS, 0, none⟩ = some (.int .i64 s0) ∧ u.cell? ⟨cS, 1, none⟩ = some (.int .i64 s1) ∧ u.cell? ⟨cR, 0, none⟩ = some (.int .i64 r0.1) ∧ u.cell? ⟨cR, 1, none⟩ = some (.int .i64 r0.2.1) ∧ u.cell? ⟨cR, 2, none⟩ = some (.slice ao0 r0.2.2.1.length co0) ∧ u.cell? ⟨cR, 3, none⟩ = some (.slice ap0 r0.2.2.2.length cp0) ∧ u.cell? ⟨cR, 4, none⟩ = some (.int .i64 r1.1) ∧ u.cell? ⟨cR, 5, none⟩ = some (.int .i64 r1.2.1) ∧ u.cell? ⟨cR, 6, none⟩ = some (.slice ao1 r1.2.2.1.length co1) ∧ u.cell? ⟨cR, 7, none⟩ = some (.slice ap1 r1.2.2.2.length cp1))
    (first | exact SK6.out _ gx6 | exact SK6.out _ gb6 | exact SK6.out _ ga6 | exact SK6.out _ gc6 | exact SK6.out _ gd6 | go_keep)
    (first
      | (go_at_call 12; refine hN6.mono ?_; rintro e wx6 ⟨vx6, rfl, ex6, lx6, gx'6⟩; have gx6 : w6.grownBy wx6 (some m) := grown_trans ga6 gx'6 (.inl rfl); obtain ⟨ax6, cx6, rfl, _⟩ := ex6.form)
      | (go_at_call 18; refine (made_any wc6 x y s0 3 _ r0 ⟨_, _, rfl, (t0.mv (Mv.belowG bc6)).mv Mv.any, (u0.mv (Mv.belowG bc6)).mv Mv.any⟩ z0 (hT6.below bc6)).mono ?_; rintro e wa6 ⟨va6, rfl, fa6, ba6⟩; obtain ⟨aa6, ca6, rfl, _⟩ := fa6.form; have bb6 : Below w6.heap.size w6 wa6 := below_and bc6 (Nat.le_refl _) ba6; have ga6 : w6.grownBy wa6 (some m) := grown_of_below bb6 _; have gb6 : w6.grownBy (wa6.alloc (.cells #[.int .i64 3, .slice aa6 (sgn 2 x y s0 r0 3).length ca6] 53)) (some m) := grown_trans ga6 (grown_of_below (below_alloc _ _) _) (.inl rfl); have hN6 := note1_any wa6 b m [] (l6.below bb6) 2 x y s0 3 _ r0 (mov_req _ _ _ _ _ _ qc6 ba6.size (fun k hk hlt => ⟨ba6.block k hlt, by have := l6.lt.2; unfold From at hk; unfold NM; have : w6.drew.heap.size = w6.heap.size := rfl; omega⟩)) z0 _ _ (fa6.mv (toNM (l6.below bc6).lt.2)) (sgn_sz _ _ _ _ _ _) (hT6.below bb6); rw [n1] at hN6)
      | (go_at_call 13; refine (HCP6.out ()).mono ?_; rintro e wc6 ⟨ae6, ce6, af6, cf6, rfl, qc6, bc'6⟩; have bc6 : Below w6.heap.size w6 wc6 := hd6.trans bc'6; have gc6 : w6.grownBy wc6 (some m) := grown_of_below bc6 _))
  have BW7 := BW6.trans (grown_below gx6 (Nat.le_trans hm5 (Nat.le_of_lt l6.lt.2)) (fun q hq => by have := Option.some.inj hq; omega))
  have mv6 : Mv (NM m) (NM m) w6 wx6 := Mv.nm (fun k hk => hk) gx6
  have t1 := t1.mv mv6
  have u1 := u1.mv mv6
  have ra := ra.grown gx6 hmra
  have rb := rb.grown gx6 hmrb
  have rc := rc.grown gx6 hmrc
  have hT7 := hT6.grown gx6 (l6.ntab hT6)
  have HCT := cutG_any wx6 b m _ lx6 (fun k hk => hk) s1
  have k0 := ra.cell (j := 0) rfl; have k1 := ra.cell (j := 1) rfl; have k2 := rb.cell (j := 0) rfl; have k3 := rb.cell (j := 1) rfl
  clear SK6 gd6 HCP6 hN6 ga6 gb6 gc6 fa6 ba6 bb6 bc6 bc'6 qc6 gx'6 ex6 mv6 hT6 l6 BW6 t0 u0 hd6 n1 q0 q1 q2 q3 q4 q5 q6 q7 q8 q9 q10 q11
  by_cases hc : s0 ≤ s1
  · rw [show cutL [⟨(2, x, y, s0, 3), r0, sgn 2 x y s0 r0 3, false⟩] s1 = ([] : List PSn) by simp [cutL]; omega] at HCT
    have hdc : decide (s0 ≤ s1) = true := by simp; omega
    go_upto_region 8 with (go_at_call 10; refine HCT.mono ?_; rintro e w8 ⟨rfl, l8, g8⟩)
    have BW8 := BW7.trans (grown_below g8 (Nat.le_trans hm5 (Nat.le_of_lt lx6.lt.2)) (fun q hq => by have := Option.some.inj hq; omega))
    have mv8 : Mv (NM m) (NM m) wx6 w8 := Mv.nm (fun k hk => hk) g8
    have t1 := t1.mv mv8
    have u1 := u1.mv mv8
    have ra := ra.grown g8 hmra
    have rb := rb.grown g8 hmrb
    have rc := rc.grown g8 hmrc
    have hT8 := hT7.grown g8 (lx6.ntab hT7)
    have HLN := lenG_any w8 b m _ l8
    rw [show ((([] : List PSn) : List PSn).length : Int) = 0 from rfl] at HLN
    clear k0 k1 k2 k3 lx6 hT7 BW7 mv8 HCT
    have k0 := ra.cell (j := 0) rfl; have k1 := ra.cell (j := 1) rfl; have k2 := rb.cell (j := 0) rfl; have k3 := rb.cell (j := 1) rfl
    go_upto_region 11 with (go_at_call 17; refine HLN.mono ?_; rintro e w8 ⟨rfl, rfl⟩)
    clear k0 k1 k2 k3
    have SK8 := (show Hid (∀ u, w8.grownBy u (some m) → u.cell? ⟨cB, 0, none⟩ = some (.int .i64 x) ∧ u.cell? ⟨cB, 1, none⟩ = some (.int .i64 y) ∧ u.cell? ⟨cS, 0, none⟩ = some (.int .i64 s0) ∧ u.cell? ⟨cS, 1, none⟩ = some (.int .i64 s1) ∧ u.cell? ⟨cR, 0, none⟩ = some (.int .i64 r0.1) ∧ u.cell? ⟨cR, 1, none⟩ = some (.int .i64 r0.2.1) ∧ u.cell? ⟨cR, 2, none⟩ = some (.slice ao0 r0.2.2.1.length co0) ∧ u.cell? ⟨cR, 3, none⟩ = some (.slice ap0 r0.2.2.2.length cp0) ∧ u.cell? ⟨cR, 4, none⟩ = some (.int .i64 r1.1) ∧ u.cell? ⟨cR, 5, none⟩ = some (.int .i64 r1.2.1) ∧ u.cell? ⟨cR, 6, none⟩ = some (.slice ao1 r1.2.2.1.length co1) ∧ u.cell? ⟨cR, 7, none⟩ = some (.slice ap1 r1.2.2.2.length cp1)) from fun u hu => ⟨(ra.grown hu hmra).cell (j := 0) rfl, (ra.grown hu hmra).cell (j := 1) rfl, (rb.grown hu hmrb).cell (j := 0) rfl, (rb.grown hu hmrb).cell (j := 1) rfl, (rc.grown hu hmrc).cell (j := 0) rfl, (rc.grown hu hmrc).cell (j := 1) rfl, (rc.grown hu hmrc).cell (j := 2) rfl, (rc.grown hu hmrc).cell (j := 3) rfl, (rc.grown hu hmrc).cell (j := 4) rfl, (rc.grown hu hmrc).cell (j := 5) rfl, (rc.grown hu hmrc).cell (j := 6) rfl, (rc.grown hu hmrc).cell (j := 7) rfl⟩)
    obtain ⟨q0, q1, q2, q3, q4, q5, q6, q7, q8, q9, q10, q11⟩ := SK8.out w8 (grown_of_below (Below.refl _ _) _)
    have n2 : noteL [] 2 x y s0 r1 [(3, sgn 2 x y s0 r1 3)] = ([⟨(2, x, y, s0, 3), r1, sgn 2 x y s0 r1 3, false⟩], []) := note_first (ls := []) (by decide) (by decide) rfl (by decide)
    have hd8 := below_drew w8
    have gd8 : w8.grownBy w8.drew (some m) := grown_of_below hd8 _
    have HCP8 := (show Hid (∀ _ : Unit, _) from fun _ => copyQ_any w8.drew _ _ r1 ((t1.mv (Mv.belowG hd8)).mv Mv.any) ((u1.mv (Mv.belowG hd8)).mv Mv.any) z1)
    go_wp2_with fail
    go_region_held3 (fun u => u.cell? ⟨cB, 0, none⟩ = some (.int .i64 x) ∧ u.cell? ⟨cB, 1, none⟩ = some (.int .i64 y) ∧ u.cell? ⟨cS, 0, none⟩ = some (.int .i64 s0) ∧ u.cell? ⟨cS, 1, none⟩ = some (.int .i64 s1) ∧ u.cell? ⟨cR, 0, none⟩ = some (.int .i64 r0.1) ∧ u.cell? ⟨cR, 1, none⟩ = some (.int .i64 r0.2.1) ∧ u.cell? ⟨cR, 2, none⟩ = some (.slice ao0 r0.2.2.1.length co0) ∧ u.cell? ⟨cR, 3, none⟩ = some (.slice ap0 r0.2.2.2.length cp0) ∧ u.cell? ⟨cR, 4, none⟩ = some (.int .i64 r1.1) ∧ u.cell? ⟨cR, 5, none⟩ = some (.int .i64 r1.2.1) ∧ u.cell? ⟨cR, 6, none⟩ = some (.slice ao1 r1.2.2.1.length co1) ∧ u.cell? ⟨cR, 7, none⟩ = some (.slice ap1 r1.2.2.2.length cp1))
      (first | exact SK8.out _ gx8 | exact SK8.out _ gb8 | exact SK8.out _ ga8 | exact SK8.out _ gc8 | exact SK8.out _ gd8 | go_keep)
      (first
        | (go_at_call 12; refine hN8.mono ?_; rintro e wx8 ⟨vx8, rfl, ex8, lx8, gx'8⟩; have gx8 : w8.grownBy wx8 (some m) := grown_trans ga8 gx'8 (.inl rfl); obtain ⟨ax8, cx8, rfl, _⟩ := ex8.form)
        | (go_at_call 18; refine (made_any wc8 x y s0 3 _ r1 ⟨_, _, rfl, (t1.mv (Mv.belowG bc8)).mv Mv.any, (u1.mv (Mv.belowG bc8)).mv Mv.any⟩ z1 (hT8.below bc8)).mono ?_; rintro e wa8 ⟨va8, rfl, fa8, ba8⟩; obtain ⟨aa8, ca8, rfl, _⟩ := fa8.form; have bb8 : Below w8.heap.size w8 wa8 := below_and bc8 (Nat.le_refl _) ba8; have ga8 : w8.grownBy wa8 (some m) := grown_of_below bb8 _; have gb8 : w8.grownBy (wa8.alloc (.cells #[.int .i64 3, .slice aa8 (sgn 2 x y s0 r1 3).length ca8] 53)) (some m) := grown_trans ga8 (grown_of_below (below_alloc _ _) _) (.inl rfl); have hN8 := note1_any wa8 b m ([] : List PSn) (l8.below bb8) 2 x y s0 3 _ r1 (mov_req _ _ _ _ _ _ qc8 ba8.size (fun k hk hlt => ⟨ba8.block k hlt, by have := l8.lt.2; unfold From at hk; unfold NM; have : w8.drew.heap.size = w8.heap.size := rfl; omega⟩)) z1 _ _ (fa8.mv (toNM (l8.below bc8).lt.2)) (sgn_sz _ _ _ _ _ _) (hT8.below bb8); rw [n2] at hN8)
        | (go_at_call 13; refine (HCP8.out ()).mono ?_; rintro e wc8 ⟨ae8, ce8, af8, cf8, rfl, qc8, bc'8⟩; have bc8 : Below w8.heap.size w8 wc8 := hd8.trans bc'8; have gc8 : w8.grownBy wc8 (some m) := grown_of_below bc8 _))
    have BW9 := BW8.trans (grown_below gx8 (Nat.le_trans hm5 (Nat.le_of_lt l8.lt.2)) (fun q hq => by have := Option.some.inj hq; omega))
    have HLN9 := lenG_any wx8 b m _ lx8
    rw [show (([⟨(2, x, y, s0, 3), r1, sgn 2 x y s0 r1 3, false⟩] : List PSn).length : Int) = 1 from rfl] at HLN9
    clear SK8 HCP8 hN8 q0 q1 q2 q3 q4 q5 q6 q7 q8 q9 q10 q11 n2
    go_wp2_with (go_at_call 17; refine HLN9.mono ?_; rintro e wx8 ⟨rfl, rfl⟩)
    go_ret
    exact ⟨rfl, BW9⟩
  · rw [show cutL [⟨(2, x, y, s0, 3), r0, sgn 2 x y s0 r0 3, false⟩] s1 = [⟨(2, x, y, s0, 3), r0, sgn 2 x y s0 r0 3, false⟩] by simp [cutL]; omega] at HCT
    have hdc : decide (s0 ≤ s1) = false := by simp; omega
    go_upto_region 8 with (go_at_call 10; refine HCT.mono ?_; rintro e w8 ⟨rfl, l8, g8⟩)
    have BW8 := BW7.trans (grown_below g8 (Nat.le_trans hm5 (Nat.le_of_lt lx6.lt.2)) (fun q hq => by have := Option.some.inj hq; omega))
    have mv8 : Mv (NM m) (NM m) wx6 w8 := Mv.nm (fun k hk => hk) g8
    have t1 := t1.mv mv8
    have u1 := u1.mv mv8
    have ra := ra.grown g8 hmra
    have rb := rb.grown g8 hmrb
    have rc := rc.grown g8 hmrc
    have hT8 := hT7.grown g8 (lx6.ntab hT7)
    have HLN := lenG_any w8 b m _ l8
    rw [show (([⟨(2, x, y, s0, 3), r0, sgn 2 x y s0 r0 3, false⟩] : List PSn).length : Int) = 1 from rfl] at HLN
    clear k0 k1 k2 k3 lx6 hT7 BW7 mv8 HCT
    have k0 := ra.cell (j := 0) rfl; have k1 := ra.cell (j := 1) rfl; have k2 := rb.cell (j := 0) rfl; have k3 := rb.cell (j := 1) rfl
    go_upto_region 11 with (go_at_call 17; refine HLN.mono ?_; rintro e w8 ⟨rfl, rfl⟩)
    clear k0 k1 k2 k3
    have SK8 := (show Hid (∀ u, w8.grownBy u (some m) → u.cell? ⟨cB, 0, none⟩ = some (.int .i64 x) ∧ u.cell? ⟨cB, 1, none⟩ = some (.int .i64 y) ∧ u.cell? ⟨cS, 0, none⟩ = some (.int .i64 s0) ∧ u.cell? ⟨cS, 1, none⟩ = some (.int .i64 s1) ∧ u.cell? ⟨cR, 0, none⟩ = some (.int .i64 r0.1) ∧ u.cell? ⟨cR, 1, none⟩ = some (.int .i64 r0.2.1) ∧ u.cell? ⟨cR, 2, none⟩ = some (.slice ao0 r0.2.2.1.length co0) ∧ u.cell? ⟨cR, 3, none⟩ = some (.slice ap0 r0.2.2.2.length cp0) ∧ u.cell? ⟨cR, 4, none⟩ = some (.int .i64 r1.1) ∧ u.cell? ⟨cR, 5, none⟩ = some (.int .i64 r1.2.1) ∧ u.cell? ⟨cR, 6, none⟩ = some (.slice ao1 r1.2.2.1.length co1) ∧ u.cell? ⟨cR, 7, none⟩ = some (.slice ap1 r1.2.2.2.length cp1)) from fun u hu => ⟨(ra.grown hu hmra).cell (j := 0) rfl, (ra.grown hu hmra).cell (j := 1) rfl, (rb.grown hu hmrb).cell (j := 0) rfl, (rb.grown hu hmrb).cell (j := 1) rfl, (rc.grown hu hmrc).cell (j := 0) rfl, (rc.grown hu hmrc).cell (j := 1) rfl, (rc.grown hu hmrc).cell (j := 2) rfl, (rc.grown hu hmrc).cell (j := 3) rfl, (rc.grown hu hmrc).cell (j := 4) rfl, (rc.grown hu hmrc).cell (j := 5) rfl, (rc.grown hu hmrc).cell (j := 6) rfl, (rc.grown hu hmrc).cell (j := 7) rfl⟩)
    obtain ⟨q0, q1, q2, q3, q4, q5, q6, q7, q8, q9, q10, q11⟩ := SK8.out w8 (grown_of_below (Below.refl _ _) _)
    have n2 : noteL [⟨(2, x, y, s0, 3), r0, sgn 2 x y s0 r0 3, false⟩] 2 x y s0 r1 [(3, sgn 2 x y s0 r1 3)] = ([⟨(2, x, y, s0, 3), r0, sgn 2 x y s0 r0 3, true⟩], [evL (2, x, y, s0, 3) r0 (sgn 2 x y s0 r0 3) r1 (sgn 2 x y s0 r1 3)]) := note_other (j := 0) (z := ⟨(2, x, y, s0, 3), r0, sgn 2 x y s0 r0 3, false⟩) (by decide) (by decide) (by simp [keysL, fnd]) rfl rfl hnb
    have hd8 := below_drew w8
    have gd8 : w8.grownBy w8.drew (some m) := grown_of_below hd8 _
    have HCP8 := (show Hid (∀ _ : Unit, _) from fun _ => copyQ_any w8.drew _ _ r1 ((t1.mv (Mv.belowG hd8)).mv Mv.any) ((u1.mv (Mv.belowG hd8)).mv Mv.any) z1)
    go_wp2_with fail
    go_region_held3 (fun u => u.cell? ⟨cB, 0, none⟩ = some (.int .i64 x) ∧ u.cell? ⟨cB, 1, none⟩ = some (.int .i64 y) ∧ u.cell? ⟨cS, 0, none⟩ = some (.int .i64 s0) ∧ u.cell? ⟨cS, 1, none⟩ = some (.int .i64 s1) ∧ u.cell? ⟨cR, 0, none⟩ = some (.int .i64 r0.1) ∧ u.cell? ⟨cR, 1, none⟩ = some (.int .i64 r0.2.1) ∧ u.cell? ⟨cR, 2, none⟩ = some (.slice ao0 r0.2.2.1.length co0) ∧ u.cell? ⟨cR, 3, none⟩ = some (.slice ap0 r0.2.2.2.length cp0) ∧ u.cell? ⟨cR, 4, none⟩ = some (.int .i64 r1.1) ∧ u.cell? ⟨cR, 5, none⟩ = some (.int .i64 r1.2.1) ∧ u.cell? ⟨cR, 6, none⟩ = some (.slice ao1 r1.2.2.1.length co1) ∧ u.cell? ⟨cR, 7, none⟩ = some (.slice ap1 r1.2.2.2.length cp1))
      (first | exact SK8.out _ gx8 | exact SK8.out _ gb8 | exact SK8.out _ ga8 | exact SK8.out _ gc8 | exact SK8.out _ gd8 | go_keep)
      (first
        | (go_at_call 12; refine hN8.mono ?_; rintro e wx8 ⟨vx8, rfl, ex8, lx8, gx'8⟩; have gx8 : w8.grownBy wx8 (some m) := grown_trans ga8 gx'8 (.inl rfl); obtain ⟨ax8, cx8, rfl, _⟩ := ex8.form)
        | (go_at_call 18; refine (made_any wc8 x y s0 3 _ r1 ⟨_, _, rfl, (t1.mv (Mv.belowG bc8)).mv Mv.any, (u1.mv (Mv.belowG bc8)).mv Mv.any⟩ z1 (hT8.below bc8)).mono ?_; rintro e wa8 ⟨va8, rfl, fa8, ba8⟩; obtain ⟨aa8, ca8, rfl, _⟩ := fa8.form; have bb8 : Below w8.heap.size w8 wa8 := below_and bc8 (Nat.le_refl _) ba8; have ga8 : w8.grownBy wa8 (some m) := grown_of_below bb8 _; have gb8 : w8.grownBy (wa8.alloc (.cells #[.int .i64 3, .slice aa8 (sgn 2 x y s0 r1 3).length ca8] 53)) (some m) := grown_trans ga8 (grown_of_below (below_alloc _ _) _) (.inl rfl); have hN8 := note1_any wa8 b m [⟨(2, x, y, s0, 3), r0, sgn 2 x y s0 r0 3, false⟩] (l8.below bb8) 2 x y s0 3 _ r1 (mov_req _ _ _ _ _ _ qc8 ba8.size (fun k hk hlt => ⟨ba8.block k hlt, by have := l8.lt.2; unfold From at hk; unfold NM; have : w8.drew.heap.size = w8.heap.size := rfl; omega⟩)) z1 _ _ (fa8.mv (toNM (l8.below bc8).lt.2)) (sgn_sz _ _ _ _ _ _) (hT8.below bb8); rw [n2] at hN8)
        | (go_at_call 13; refine (HCP8.out ()).mono ?_; rintro e wc8 ⟨ae8, ce8, af8, cf8, rfl, qc8, bc'8⟩; have bc8 : Below w8.heap.size w8 wc8 := hd8.trans bc'8; have gc8 : w8.grownBy wc8 (some m) := grown_of_below bc8 _))
    have BW9 := BW8.trans (grown_below gx8 (Nat.le_trans hm5 (Nat.le_of_lt l8.lt.2)) (fun q hq => by have := Option.some.inj hq; omega))
    have HLN9 := lenG_any wx8 b m _ lx8
    rw [show (([⟨(2, x, y, s0, 3), r0, sgn 2 x y s0 r0 3, true⟩] : List PSn).length : Int) = 1 from rfl] at HLN9
    clear SK8 HCP8 hN8 q0 q1 q2 q3 q4 q5 q6 q7 q8 q9 q10 q11 n2
    go_wp2_with (go_at_call 17; refine HLN9.mono ?_; rintro e wx8 ⟨rfl, rfl⟩)
    go_ret
    exact ⟨rfl, BW9⟩
end Go.Proofs.YtajmgpgjkalfkaaDoor
end

section
namespace Go.Proofs.YtajmgpgjkalfkaaDoor
open Go.ChangeShapes Go.WideShapes Go.ChangeAt Go.RowKit

theorem ledgerCuts_own : ownKnob Tryd.prog.godebug = none := by kernel_rfl
theorem ledgerCuts_laidOut : laidOutB Tryd.prog = true := by kernel_rfl
theorem ledgerCuts_cells5 : Tryd.prog.cellsOf 5 = 1 := by kernel_rfl

set_option maxRecDepth 100000 in
theorem ledgerCuts_contract (H : Type) (enc : TypeId × Value → H) (W : World) (base : Nat) (args : Array Value) (ds gs : List (DataW H)) (before : List MemPlace)
    (hval : ∀ (j : Nat) t v, Tryd.f7.params[j]? = some t → args[j]? = some v → Value.okWide Tryd.prog W .any base t v)
    (hW : DataW.Whole enc Tryd.prog Tryd.f7.params.toList Rows.ledgerCutsSpec.vars false W args.toList ds gs before) (hk : Rows.uptoSmall H (ds ++ gs) = true)
    (hT : Tab W) :
    Calls Tryd.prog 7 args W fun e W' => ∃ v, e = .returned v ∧ Rows.ledgerCutsSpec.post enc Tryd.prog Tryd.f7 false true false false W args v W' := by
  have hW' := hW
  obtain ⟨p, q, hA0, hV, rfl, hfz, hnd⟩ := hW
  have hA : DataW.TrodAll enc Tryd.prog W 0 (fun _ => true) true Tryd.f7.params.toList args.toList ds p := hA0
  rw [Tryd.params7] at hA hval
  obtain ⟨v0, vs0, d0, ds0, p0, q0, hargs, rfl, rfl, h0, r0⟩ := trodAll_cons hA
  obtain ⟨v1, vs1, d1, ds1, p1, q1, rfl, rfl, rfl, h1, r1⟩ := trodAll_cons r0
  obtain ⟨v2, vs2, d2, ds2, p2, q2, rfl, rfl, rfl, h2, r2⟩ := trodAll_cons r1
  obtain ⟨rfl, rfl, rfl⟩ := trodAll_nil r2
  obtain rfl : args = #[v0, v1, v2] := by cases args; simp_all
  obtain ⟨rfl, rfl⟩ := trodVars_none hV
  simp only [List.append_nil] at hk
  have lt0 : ∀ x ∈ p0, x.block < W.heap.size := by obtain ⟨m, hm⟩ := h0; exact DataW.trod_lt m _ _ _ hm
  obtain ⟨a0, b0, rfl⟩ := open_ballL (hval 0 28 v0 rfl rfl) h0
  have lt1 : ∀ x ∈ p1, x.block < W.heap.size := by obtain ⟨m, hm⟩ := h1; exact DataW.trod_lt m _ _ _ hm
  obtain ⟨a1, b1, rfl⟩ := open_ints2 Tryd.underlying60 Tryd.underlying3 (by kernel_rfl) (by kernel_rfl) (hval 1 60 v1 rfl rfl) h1
  have lt2 : ∀ x ∈ p2, x.block < W.heap.size := by obtain ⟨m, hm⟩ := h2; exact DataW.trod_lt m _ _ _ hm
  obtain ⟨o2, q20, o21, q21, x2, y2, rfl, ra2, rb2, rc2, rd2, hb2, wa2, wb2⟩ := open_reqs2 (hval 2 51 v2 rfl rfl) h2
  have hlen2 := Nat.le_trans hb2 (Nat.le_trans (bulk_part (by simp)) (bulk_all hk))
  clear hb2
  clear hA0
  refine (cutsLg_any W a0 b0 a1 b1 _ _ _ _ x2 y2 ra2 rb2 rc2 rd2 (tot_of (n := bQ x2 + bQ y2) (by omega) hlen2) (tot_of (n := bQ x2 + bQ y2) (by omega) hlen2) (body_in (Nat.le_refl _) hlen2 wa2 wb2) hT).mono fun e W' ⟨he, bel⟩ => ?_
  subst he
  exact ⟨_, rfl, _, _, _, [], _, [], hW', trodAll_mk1 (shut_bool Tryd.underlying4 _), (trodAll_cons_mk (Below.trod ledgerCuts_laidOut (by kernel_rfl) (of_decide_eq_true (by kernel_rfl)) h0 bel lt0) (trodAll_cons_mk (Below.trod ledgerCuts_laidOut (by kernel_rfl) (of_decide_eq_true (by kernel_rfl)) h1 bel lt1) (trodAll_cons_mk (Below.trod ledgerCuts_laidOut (by kernel_rfl) (of_decide_eq_true (by kernel_rfl)) h2 bel lt2) trodAll_mk0))), rfl, bel.frame _, fun h => by cases h⟩

theorem ledgerCuts_met (os : Os) : laidMet Tryd.prog Rows.ledgerCutsUptoRow.laid ((laidWorld os).forCall (fun _ _ => 0) ⟨#[], #[.agg #[.int .i64 0, .int .i64 0], .agg #[.int .i64 0, .int .i64 0], .agg #[.int .i64 0, .int .i64 0, .slice none 0 0, .slice none 0 0, .int .i64 0, .int .i64 0, .slice none 0 0, .slice none 0 0]], []⟩).memory :=
  laidMet_of_run' 8 (by kernel_rfl) (by kernel_rfl)
theorem ledgerCuts_reads (os : Os) {H : Type} (enc : TypeId × Value → H) : ∃ places, DataW.whole enc Tryd.prog ((laidWorld os).forCall (fun _ _ => 0) ⟨#[], #[.agg #[.int .i64 0, .int .i64 0], .agg #[.int .i64 0, .int .i64 0], .agg #[.int .i64 0, .int .i64 0, .slice none 0 0, .slice none 0 0, .int .i64 0, .int .i64 0, .slice none 0 0, .slice none 0 0]], []⟩).memory Tryd.f7.params.toList Rows.ledgerCutsSpec.vars false (#[.agg #[.int .i64 0, .int .i64 0], .agg #[.int .i64 0, .int .i64 0], .agg #[.int .i64 0, .int .i64 0, .slice none 0 0, .slice none 0 0, .int .i64 0, .int .i64 0, .slice none 0 0, .slice none 0 0]] : Array Value).toList 8 = some ([.agg [.lit (.int .i64 0), .lit (.int .i64 0)], .agg [.lit (.int .i64 0), .lit (.int .i64 0)], .agg [.agg [.lit (.int .i64 0), .lit (.int .i64 0), .nil, .nil], .agg [.lit (.int .i64 0), .lit (.int .i64 0), .nil, .nil]]], [], places) :=
  ⟨[], by kernel_rfl⟩
set_option maxRecDepth 100000 in
theorem ledgerCuts_lifted (os : Os) (started : os.Started) (H : Type) (enc : TypeId × Value → H) (F : Stop.Interp) :
    ReturnsInHanded {} Tryd.checked os 7 .any ((Rows.OpenSpec.upto Rows.ledgerCutsSpec).preRow enc Tryd.prog Tryd.f7 Rows.ledgerCutsUptoRow.domain false Rows.ledgerCutsUptoRow.laid) (((Rows.OpenSpec.upto Rows.ledgerCutsSpec).at F).post enc Tryd.prog Tryd.f7 false true false false) := by
  obtain ⟨places, hx⟩ := ledgerCuts_reads os enc
  refine returnsInHanded_of_row (C := Tryd.checked) (s := (Rows.OpenSpec.upto Rows.ledgerCutsSpec)) ledgerCuts_own started (by kernel_rfl) Tryd.func7
    (witness_row_at (enc := enc) (C := Tryd.checked) false (laidWorld os) #[.agg #[.int .i64 0, .int .i64 0], .agg #[.int .i64 0, .int .i64 0], .agg #[.int .i64 0, .int .i64 0, .slice none 0 0, .slice none 0 0, .int .i64 0, .int .i64 0, .slice none 0 0, .slice none 0 0]] rfl (by kernel_rfl) (by kernel_rfl) (by kernel_rfl)
      (OpenSpec.preRow_of_cond 8 hx (by kernel_rfl) (fun k hk => by cases hk; kernel_rfl) (by kernel_rfl) (ledgerCuts_met os))) ?_
  intro W base args ds gs before hval hW _ hcond hsz hL _ _
  exact ledgerCuts_contract H enc W base args ds gs before hval hW (hcond _ rfl) (tab_of hL)

theorem ledgerCuts_said : Rows.LedgerCutsUptoSaid :=
  OpenClaim.holds_of_cond 7 Tryd.f7 rfl rfl rfl rfl rfl rfl rfl ⟨rfl, rfl, rfl, rfl, rfl⟩ rfl rfl rfl rfl rfl (by kernel_rfl) Tryd.func7 (by kernel_rfl)
    (of_decide_eq_true (by kernel_rfl)) (by unfold Func.isWrapper; first | (rw [if_pos (by decide +kernel)]; kernel_rfl) | (rw [if_neg (by decide +kernel)]; exact ⟨rfl, rfl⟩))
    (fun os started H enc _ F => by rw [OpenClaim.pre_eq_preRow]; exact ledgerCuts_lifted os started H enc F)
theorem ledgerCuts_plain (f : FuncId) (fn : Func) (hf : Tryd.pinned.checked.prog.funcNamed "catenary/catenarylaw15.LedgerCuts" = some f) (hfn : Tryd.pinned.checked.prog.funcs[f]? = some fn) :
    false = Tryd.pinned.checked.prog.looks [] ∧ ∀ (j : Nat) t, fn.params[j]? = some t → Tryd.pinned.checked.prog.wantsStandIn t = false := by
  obtain rfl : f = 7 := Option.some.inj ((show Tryd.prog.funcNamed "catenary/catenarylaw15.LedgerCuts" = some 7 by kernel_rfl).symm.trans hf) |>.symm
  obtain rfl : fn = Tryd.f7 := (Option.some.inj (Tryd.func7.symm.trans hfn)).symm
  refine ⟨by kernel_rfl, fun j t ht => ?_⟩
  rw [Tryd.params7] at ht
  have hm := Array.mem_of_getElem? ht
  simp only [List.mem_toArray, List.mem_cons, List.not_mem_nil, or_false] at hm
  rcases hm with rfl | rfl | rfl
  · exact (show Tryd.prog.wantsStandIn 28 = false by kernel_rfl)
  · exact (show Tryd.prog.wantsStandIn 60 = false by kernel_rfl)
  · exact (show Tryd.prog.wantsStandIn 51 = false by kernel_rfl)
theorem ledgerCuts_proved : Rows.LedgerCutsUptoCardSaid :=
  Claim7.holds_tied_plain_at .later [] _ _ _ _ ledgerCuts_said (fun _ h => by cases h) (by kernel_rfl) (fun _ h => by cases h) ledgerCutsUpto_row_tie rfl ⟨rfl, rfl⟩ (by kernel_rfl) rfl ledgerCuts_plain (by kernel_rfl)
#print axioms ledgerCuts_proved
end Go.Proofs.YtajmgpgjkalfkaaDoor
end
