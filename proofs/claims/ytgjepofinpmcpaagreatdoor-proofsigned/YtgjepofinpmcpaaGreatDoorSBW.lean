/- Package proof: showsBoth, Check. -/
import Derived.Test.YtgjepofinpmcpaaGreatDoorSBV
import Derived.Test.YtgjepofinpmcpaaGreatDoorSBS
set_option linter.unusedSimpArgs false
set_option linter.unusedVariables false
namespace Go.Proofs.YtgjepofinpmcpaaGreatDoor
open Go.RowKit Oct Kvl
set_option maxRecDepth 10000 in
set_option maxHeartbeats 4000000 in
theorem showsBoth_any (w : World) (m : PMsg) (s : SV) (hs : SOk Any w m s) (z1 : tot [m.req.2.2.1, m.req.2.2.2] ≤ 2000000) (z2 : tot [m.oth.2.2.1, m.oth.2.2.2] ≤ 2000000) (hT : Tab w) :
    Calls Tryz.prog 23 #[.agg (mc m s).toArray] w fun e w' => e = .returned (.bool (shw m)) ∧ Below w.heap.size w w' := by
  obtain ⟨w1, hw1, r1, B1⟩ := boxP w m s
  have hs1 := hs.below B1
  have hT1 := hT.below B1
  have hdw : Below w1.heap.size w1 w1.drew := ⟨rfl, rfl, rfl, Nat.le_refl _, fun _ _ => rfl⟩
  have HB1 := (show Hid (∀ u, Below w1.heap.size w1 u → Calls Tryz.prog 21 #[.agg #[.int .i64 m.req.1, .int .i64 m.req.2.1, s.o, s.g]] u fun e w' => ∃ v', e = .returned v' ∧ Own w' 5 v' (bc (body m.req)) ∧ Fr u.heap.size v' ∧ Below u.heap.size u w') from
    fun u hu => body_any u [.int .i64 m.req.1, .int .i64 m.req.2.1, s.o, s.g] m.req ⟨_, _, rfl, (hs1.below hu).o, (hs1.below hu).g⟩ (Nat.le_trans z1 (by decide)))
  have HB2 := (show Hid (∀ u, Below w1.heap.size w1 u → Calls Tryz.prog 21 #[.agg #[.int .i64 m.oth.1, .int .i64 m.oth.2.1, s.o', s.g']] u fun e w' => ∃ v', e = .returned v' ∧ Own w' 5 v' (bc (body m.oth)) ∧ Fr u.heap.size v' ∧ Below u.heap.size u w') from
    fun u hu => body_any u [.int .i64 m.oth.1, .int .i64 m.oth.2.1, s.o', s.g'] m.oth ⟨_, _, rfl, (hs1.below hu).o', (hs1.below hu).g'⟩ (Nat.le_trans z2 (by decide)))
  have SK := (show Hid (∀ u, Below w1.heap.size w1 u → u.cell? ⟨w.heap.size, 8, none⟩ = some (.int .i64 m.req.1) ∧ u.cell? ⟨w.heap.size, 9, none⟩ = some (.int .i64 m.req.2.1) ∧ u.cell? ⟨w.heap.size, 10, none⟩ = some s.o ∧ u.cell? ⟨w.heap.size, 11, none⟩ = some s.g ∧ u.cell? ⟨w.heap.size, 12, none⟩ = some (.int .i64 m.oth.1) ∧ u.cell? ⟨w.heap.size, 13, none⟩ = some (.int .i64 m.oth.2.1) ∧ u.cell? ⟨w.heap.size, 14, none⟩ = some s.o' ∧ u.cell? ⟨w.heap.size, 15, none⟩ = some s.g') from
    fun u hu => ⟨(r1.below hu).cell (j := 8) rfl, (r1.below hu).cell (j := 9) rfl, (r1.below hu).cell (j := 10) rfl, (r1.below hu).cell (j := 11) rfl, (r1.below hu).cell (j := 12) rfl, (r1.below hu).cell (j := 13) rfl, (r1.below hu).cell (j := 14) rfl, (r1.below hu).cell (j := 15) rfl⟩)
  obtain ⟨q0, q1, q2, q3, q4, q5, q6, q7⟩ := SK.out w1 (Below.refl _ _)
  obtain ⟨D, hD⟩ : ∃ D, D = shw m := ⟨_, rfl⟩
  rw [← hD]
  have HD := (show Hid (D = shw m) from hD)
  clear hD
  go_enter Tryz.func23, Tryz.ntmps23
  go_upto_region 1 with fail
  rw [← hw1]
  clear hw1
  go_wp2_with fail
  go_region_held3 (fun u => u.cell? ⟨w.heap.size, 8, none⟩ = some (.int .i64 m.req.1) ∧ u.cell? ⟨w.heap.size, 9, none⟩ = some (.int .i64 m.req.2.1) ∧ u.cell? ⟨w.heap.size, 10, none⟩ = some s.o ∧ u.cell? ⟨w.heap.size, 11, none⟩ = some s.g ∧ u.cell? ⟨w.heap.size, 12, none⟩ = some (.int .i64 m.oth.1) ∧ u.cell? ⟨w.heap.size, 13, none⟩ = some (.int .i64 m.oth.2.1) ∧ u.cell? ⟨w.heap.size, 14, none⟩ = some s.o' ∧ u.cell? ⟨w.heap.size, 15, none⟩ = some s.g')
    (first | exact SK.out _ B3 | exact SK.out _ B2 | exact SK.out _ hdw | go_keep)
    (first
      | (go_at_call 21; refine (HB2.out w2 B2).mono ?_; rintro e w3 ⟨v3, rfl, o3, f3, b3⟩; have B3 : Below w1.heap.size w1 w3 := below_and B2 (Nat.le_refl _) b3)
      | (go_at_call 21; refine (HB1.out w1.drew hdw).mono ?_; rintro e w2 ⟨v2, rfl, o2, f2, b2⟩; have B2 : Below w1.heap.size w1 w2 := below_and hdw (Nat.le_refl _) b2))
  have y1 : Byt (body m.req) := body_byt hs.o.1.1 hs.g.1.1 z1
  have y2 : Byt (body m.oth) := body_byt hs.o'.1.1 hs.g'.1.1 z2
  have R2 := (o2.rd y1).below b3
  have R3 := o3.rd y2
  have HC := compare_any w3 v2 v3 _ _ R2 R3
  have r3 := r1.below B3
  have c17 := r3.cell (j := 17) rfl
  have HV1 := voted_any w3 m s m.req v2 R2 (body_len z1) s.s m.sig (hs1.below B3).s.1 (hT1.below B3)
  have HV2 := (show Hid (∀ u, Below w3.heap.size w3 u → Calls Tryz.prog 45 #[.agg (mc m s).toArray, v3, s.d] u fun e w' => e = .returned (.bool (vtd m m.oth m.data)) ∧ Below u.heap.size u w') from
    fun u hu => voted_any u m s m.oth v3 (R3.below hu) (body_len z2) s.d m.data ((hs1.below B3).below hu).d.1 ((hT1.below B3).below hu))
  have BB := below_and B1 (Nat.le_refl _) B3
  have hD : D = (decide (cmpL (body m.req) (body m.oth) < 0) && vtd m m.req m.sig && vtd m m.oth m.data) := HD.out
  clear HD
  generalize cmpL (body m.req) (body m.oth) = C at *
  generalize vtd m m.req m.sig = V1 at *
  generalize vtd m m.oth m.data = V2 at *
  clear HB1 HB2 SK q0 q1 q2 q3 q4 q5 q6 q7 R2 R3 y1 y2 o2 o3 f2 f3 hs hs1 z1 z2 hT hT1 b2 b3 B2 hdw
  by_cases hc : C < 0
  case neg =>
    rw [decide_eq_false hc, Bool.false_and, Bool.false_and] at hD
    subst hD
    go_wp2_with (go_at_call 44; refine HC.mono ?_; rintro e w4 ⟨rfl, rfl⟩)
    go_ret
    exact ⟨rfl, BB⟩
  rw [decide_eq_true hc, Bool.true_and] at hD
  cases V1 with
  | false =>
    rw [Bool.false_and] at hD
    subst hD
    go_wp2_with (first
      | (go_at_call 44; refine HC.mono ?_; rintro e w4 ⟨rfl, rfl⟩)
      | (refine wl_load_w (by kernel_rfl) _ _ rfl w.heap.size rfl _ _ r3 _ Tryz.underlying40 rfl (by kernel_rfl) ?_)
      | (go_at_call 45; refine HV1.mono ?_; rintro e w5 ⟨rfl, b5⟩))
    go_ret
    exact ⟨rfl, below_and BB (Nat.le_refl _) b5⟩
  | true =>
    rw [Bool.true_and] at hD
    subst hD
    go_wp2_with (first
      | (go_at_call 44; refine HC.mono ?_; rintro e w4 ⟨rfl, rfl⟩)
      | (refine wl_load_w (by kernel_rfl) _ _ rfl w.heap.size rfl _ _ r5 _ Tryz.underlying40 rfl (by kernel_rfl) ?_)
      | (refine wl_load_w (by kernel_rfl) _ _ rfl w.heap.size rfl _ _ r3 _ Tryz.underlying40 rfl (by kernel_rfl) ?_)
      | (go_at_call 45; refine (HV2.out w5 b5).mono ?_; rintro e w6 ⟨rfl, b6⟩)
      | (go_at_call 45; refine HV1.mono ?_; rintro e w5 ⟨rfl, b5⟩; have r5 := r3.below b5; have c16 := r5.cell (j := 16) rfl))
    go_ret
    exact ⟨rfl, below_and (below_and BB (Nat.le_refl _) b5) (Nat.le_refl _) b6⟩
def CkP (l : List Int) (n : Int) (w : World) (e : Ending) (w' : World) : Prop := e = .returned (.tuple #[.int .i64 (chkW l n), .int .i64 (chkE l n)]) ∧ Below w.heap.size w w'
set_option maxRecDepth 10000 in
set_option maxHeartbeats 4000000 in
/-- proof.Check. -/
theorem check_any (w : World) (bv : Value) (l : List Int) (hb : RT Any w bv l) (n : Int) (hT : Tab w) : Calls Tryz.prog 9 #[bv, .int .i64 n] w (CkP l n w) := by
  have hby := hb.1.1
  have HZ := (show Hid (decE l = 0 → tot [(decM l).req.2.2.1, (decM l).req.2.2.2] ≤ 2000000 ∧ tot [(decM l).oth.2.2.1, (decM l).oth.2.2.2] ≤ 2000000) from dec_short hby)
  have HL := (show Hid (chkL l n = (decide (decE l = 0) && may (decM l) n && shw (decM l))) from rfl)
  have HD := decode_any w bv l hb
  go_enter Tryz.func9, Tryz.ntmps9
  go_upto_region 2 with (first
    | (go_at_call 19; refine HD.mono ?_; rintro e w1 ⟨s1, rfl, hs1', b1⟩; have hs1 := hs1'.mv (Nat.le_refl _) Mv.any; have hone := hs1.one; have hrow := Row.new w1 40 (mc zeroM sv0))
    | (refine wl_store rfl _ _ _ rfl w1.heap.size (mc (decM l) s1) rfl rfl _ _ hrow rfl (by kernel_rfl) hone ?_; intro w2 r2 g2))
  have b2 : Below w1.heap.size w1 w2 := (below_alloc w1 (.cells (mc zeroM sv0).toArray 40)).trans (grown_below g2 (by simp) (fun k hk => by cases hk; exact Nat.le_refl _))
  have B2 := below_and b1 (Nat.le_refl _) b2
  have hs2 := hs1.below b2
  have hT2 := hT.below B2
  have r2 := r2.out
  obtain ⟨cM, hcM⟩ : ∃ c, c = w1.heap.size := ⟨_, rfl⟩
  rw [← hcM] at r2 ⊢
  clear HD hb hby hT hrow hone hs1 hs1' b2 g2 b1 hcM
  have HS := (show Hid (decE l = 0 → ∀ u, Below w2.heap.size w2 u → Calls Tryz.prog 23 #[.agg (mc (decM l) s1).toArray] u fun e w' => e = .returned (.bool (shw (decM l))) ∧ Below u.heap.size u w') from
    fun h0 u hu => showsBoth_any u (decM l) s1 (hs2.below hu) (HZ.out h0).1 (HZ.out h0).2 (hT2.below hu))
  have HM := maySay_any w2 (decM l) s1 n
  have HY := (show Hid (chkL l n = true → chkW l n = (decM l).frm ∧ chkE l n = 0) from chk_yes)
  by_cases h0 : decE l = 0
  case neg =>
    have hL := chk_no (l := l) (n := n) (by rw [HL.out, decide_eq_false h0]; rfl)
    have h0' : (decE l != 0) = true := by simpa using h0
    generalize decE l = E at *
    clear HS HM HL HZ HY
    go_wp2_with fail
    go_ret2
    exact ⟨by rw [hL.1, hL.2]; rfl, B2⟩
  rw [decide_eq_true h0, Bool.true_and] at HL
  have HS := (show Hid (∀ u, Below w2.heap.size w2 u → Calls Tryz.prog 23 #[.agg (mc (decM l) s1).toArray] u fun e w' => e = .returned (.bool (shw (decM l))) ∧ Below u.heap.size u w') from HS.out h0)
  rw [h0]
  clear HZ h0
  generalize decM l = m at *
  obtain ⟨A, hA⟩ : ∃ A, A = may m n := ⟨_, rfl⟩
  rw [← hA] at HM HL
  clear hA
  obtain ⟨C, hC⟩ : ∃ C, C = shw m := ⟨_, rfl⟩
  rw [← hC] at HS HL
  clear hC
  cases A with
  | false =>
    have hL := chk_no (l := l) (n := n) (by rw [HL.out]; rfl)
    go_wp2_with (first
      | (refine wl_load_w (by kernel_rfl) _ _ rfl cM rfl _ _ r2 _ Tryz.underlying40 rfl (by kernel_rfl) ?_)
      | (go_at_call 22; refine HM.mono ?_; rintro e w3 ⟨rfl, b3⟩))
    go_ret2
    exact ⟨by rw [hL.1, hL.2]; rfl, below_and B2 (Nat.le_refl _) b3⟩
  | true =>
    cases C with
    | false =>
      have hL := chk_no (l := l) (n := n) (by rw [HL.out]; rfl)
      go_wp2_with (first
        | (refine wl_load_w (by kernel_rfl) _ _ rfl cM rfl _ _ r3 _ Tryz.underlying40 rfl (by kernel_rfl) ?_)
        | (refine wl_load_w (by kernel_rfl) _ _ rfl cM rfl _ _ r2 _ Tryz.underlying40 rfl (by kernel_rfl) ?_)
        | (go_at_call 22; refine HM.mono ?_; rintro e w3 ⟨rfl, b3⟩; have r3 := r2.below b3)
        | (go_at_call 23; (refine (HS.out w3 b3).mono ?_; rintro e w4 ⟨rfl, b4⟩)))
      go_ret2
      exact ⟨by rw [hL.1, hL.2]; rfl, below_and (below_and B2 (Nat.le_refl _) b3) (Nat.le_refl _) b4⟩
    | true =>
      have hL := HY.out (by rw [HL.out]; rfl)
      go_wp2_with (first
        | (refine wl_load_w (by kernel_rfl) _ _ rfl cM rfl _ _ r3 _ Tryz.underlying40 rfl (by kernel_rfl) ?_)
        | (refine wl_load_w (by kernel_rfl) _ _ rfl cM rfl _ _ r2 _ Tryz.underlying40 rfl (by kernel_rfl) ?_)
        | (go_at_call 22; refine HM.mono ?_; rintro e w3 ⟨rfl, b3⟩; have r3 := r2.below b3)
        | (go_at_call 23; (refine (HS.out w3 b3).mono ?_; rintro e w4 ⟨rfl, b4⟩; have c4 := (r3.below b4).cell (j := 4) rfl)))
      go_ret2
      exact ⟨by rw [hL.1, hL.2]; rfl, below_and (below_and B2 (Nat.le_refl _) b3) (Nat.le_refl _) b4⟩
end Go.Proofs.YtgjepofinpmcpaaGreatDoor
