/- The document's Check of proofs. Written by mk17.py. -/
import Derived.Test.YtgjepofinpmcpaaGreatDoorCBT
import Derived.Test.YtgjepofinpmcpaaGreatDoorCBV
import Derived.Test.YtgjepofinpmcpaaGreatDoorCBM
import Derived.Test.YtgjepofinpmcpaaGreatDoorCAR
import Derived.Test.YtgjepofinpmcpaaGreatDoorCBO
import Derived.Test.YtgjepofinpmcpaaGreatDoorCBF
set_option linter.unusedVariables false
set_option linter.unusedSimpArgs false
namespace Go.Proofs.YtgjepofinpmcpaaGreatDoor
open Go.RowKit Oct Kvl

theorem less_str {a b : List Int} (ha : Byt a) (hb : Byt b) : Op.bytesLess (strOfNums a).toList (strOfNums b).toList = decide (cmpL a b < 0) := by
  have e : ∀ l : List Int, (strOfNums l).toList = l.map fun n => UInt8.ofNat n.toNat := fun l => by rw [ByteArray.toList_eq]; rfl
  rw [e, e, less_cmp ha hb]

set_option maxRecDepth 10000 in
set_option maxHeartbeats 4000000 in
/-- The document's Check. -/
theorem refCheck_any (w : World) (bv : Value) (l : List Int) (hb : RT Any w bv l) (n : Int) : Calls Tryz.prog 10 #[bv, .int .i64 n] w (CkP l n w) := by
  have hby := hb.1.1
  have HZ := (show Hid (decE l = 0 → tot [(decM l).req.2.2.1, (decM l).req.2.2.2] ≤ 2000000 ∧ tot [(decM l).oth.2.2.1, (decM l).oth.2.2.2] ≤ 2000000) from dec_short hby)
  replace HL := (show Hid (chkL l n = (decide (decE l = 0) && may (decM l) n && shw (decM l))) from rfl)
  have HD := refDecode_any w bv l hb.1
  have HNO := (show Hid (chkL l n = false → ∀ w', Below w.heap.size w w' → CkP l n w (.returned (.tuple #[.int .i64 0, .int .i64 161])) w') from fun h w' hb => ⟨by rw [(chk_no h).1, (chk_no h).2], hb⟩)
  have HYS := (show Hid (chkL l n = true → ∀ w', Below w.heap.size w w' → CkP l n w (.returned (.tuple #[.int .i64 (decM l).frm, .int .i64 0])) w') from fun h w' hb => ⟨by rw [(chk_yes h).1, (chk_yes h).2], hb⟩)
  go_enter Tryz.func10, Tryz.ntmps10
  go_upto_region 2 with (first
    | (go_at_call 24; refine HD.mono ?_; rintro e w1 ⟨s1, rfl, hs1, b1⟩; have hone := hs1.one; have hrow := Row.new w1 40 (mc zeroM sv0))
    | (refine wl_store rfl _ _ _ rfl w1.heap.size (mc (decM l) s1) rfl rfl _ _ hrow rfl (by kernel_rfl) hone ?_; intro w2 r2 g2))
  have b2 : Below w1.heap.size w1 w2 := (below_alloc w1 (.cells (mc zeroM sv0).toArray 40)).trans (grown_below g2 (by simp) (fun k hk => by cases hk; exact Nat.le_refl _))
  have B2 := below_and b1 (Nat.le_refl _) b2
  have hs2 := hs1.below b2
  have r2 := r2.out
  obtain ⟨cM, hcM⟩ : ∃ c, c = w1.heap.size := ⟨_, rfl⟩
  rw [← hcM] at r2 ⊢
  clear HD hb hby hrow hone hs1 b2 g2 b1 hcM
  by_cases h0 : decE l = 0
  case neg =>
    have hN : chkL l n = false := by rw [HL.out, decide_eq_false h0]; rfl
    have h0' : (decE l != 0) = true := by simpa using h0
    generalize decE l = E at *
    clear HL HZ HYS
    go_wp2_with fail
    go_ret2
    exact HNO.out hN _ B2
  have hz := HZ.out h0
  rw [decide_eq_true h0, Bool.true_and] at HL
  rw [h0]
  clear HZ h0
  generalize decM l = m at *
  obtain ⟨o, g, o', g', d, sg, c, v, nn, p, ls⟩ := s1
  have t5 : RT Any w2 d m.data := hs2.d
  have t6 : RT Any w2 sg m.sig := hs2.s
  obtain ⟨ad, cd, rfl, _⟩ := t5.form
  obtain ⟨ag, cg, rfl, _⟩ := t6.form
  have HM := (show Hid (may m n = (decide (m.kind = 13) && Bal.rgt n && decide (0 ≤ m.frm) && decide (m.frm < n) && (decide (m.idx = 2) || decide (m.idx = 3)))) from rfl)
  have HSH := (show Hid (shw m = (decide (cmpL (body m.req) (body m.oth) < 0) && vtd m m.req m.sig && vtd m m.oth m.data)) from rfl)
  have HB1 := (show Hid (∀ u, Below w2.heap.size w2 u → Calls Tryz.prog 26 #[.agg #[.int .i64 m.req.1, .int .i64 m.req.2.1, o, g]] u fun e w' => ∃ v', e = .returned v' ∧ Own w' 5 v' (bc (body m.req)) ∧ Fr u.heap.size v' ∧ Below u.heap.size u w') from
    fun u hu => refBody_any u [.int .i64 m.req.1, .int .i64 m.req.2.1, o, g] m.req ⟨_, _, rfl, (hs2.below hu).o, (hs2.below hu).g⟩ (Nat.le_trans hz.1 (by decide)))
  have HB2 := (show Hid (∀ u, Below w2.heap.size w2 u → Calls Tryz.prog 26 #[.agg #[.int .i64 m.oth.1, .int .i64 m.oth.2.1, o', g']] u fun e w' => ∃ v', e = .returned v' ∧ Own w' 5 v' (bc (body m.oth)) ∧ Fr u.heap.size v' ∧ Below u.heap.size u w') from
    fun u hu => refBody_any u [.int .i64 m.oth.1, .int .i64 m.oth.2.1, o', g'] m.oth ⟨_, _, rfl, (hs2.below hu).o', (hs2.below hu).g'⟩ (Nat.le_trans hz.2 (by decide)))
  have HV1 := (show Hid (∀ u x, Below w2.heap.size w2 u → Rd u x (body m.req) → Calls Tryz.prog 27 #[.int .i64 m.idx, .agg #[.int .i64 m.bal.1, .int .i64 m.bal.2], .int .i64 m.slot, x, .agg #[.int .i64 m.frm, .slice ag m.sig.length cg]] u fun e w' => e = .returned (.bool (vtd m m.req m.sig)) ∧ Below u.heap.size u w') from
    fun u x hu hx => refVRight_any u m.idx m.bal.1 m.bal.2 m.slot m.frm x (body m.req) hx (body_len hz.1) _ m.sig (t6.1.below hu))
  have HV2 := (show Hid (∀ u x, Below w2.heap.size w2 u → Rd u x (body m.oth) → Calls Tryz.prog 27 #[.int .i64 m.idx, .agg #[.int .i64 m.bal.1, .int .i64 m.bal.2], .int .i64 m.slot, x, .agg #[.int .i64 m.frm, .slice ad m.data.length cd]] u fun e w' => e = .returned (.bool (vtd m m.oth m.data)) ∧ Below u.heap.size u w') from
    fun u x hu hx => refVRight_any u m.idx m.bal.1 m.bal.2 m.slot m.frm x (body m.oth) hx (body_len hz.2) _ m.data (t5.1.below hu))
  have y1 : Byt (body m.req) := body_byt hs2.o.1.1 hs2.g.1.1 hz.1
  have y2 : Byt (body m.oth) := body_byt hs2.o'.1.1 hs2.g'.1.1 hz.2
  have SK := (show Hid (∀ u, Below w2.heap.size w2 u → u.cell? ⟨cM, 8, none⟩ = some (.int .i64 m.req.1) ∧ u.cell? ⟨cM, 9, none⟩ = some (.int .i64 m.req.2.1) ∧ u.cell? ⟨cM, 10, none⟩ = some o ∧ u.cell? ⟨cM, 11, none⟩ = some g ∧ u.cell? ⟨cM, 12, none⟩ = some (.int .i64 m.oth.1) ∧ u.cell? ⟨cM, 13, none⟩ = some (.int .i64 m.oth.2.1) ∧ u.cell? ⟨cM, 14, none⟩ = some o' ∧ u.cell? ⟨cM, 15, none⟩ = some g') from
    fun u hu => ⟨(r2.below hu).cell (j := 8) rfl, (r2.below hu).cell (j := 9) rfl, (r2.below hu).cell (j := 10) rfl, (r2.below hu).cell (j := 11) rfl, (r2.below hu).cell (j := 12) rfl, (r2.below hu).cell (j := 13) rfl, (r2.below hu).cell (j := 14) rfl, (r2.below hu).cell (j := 15) rfl⟩)
  have SV := (show Hid (∀ u, Below w2.heap.size w2 u → u.cell? ⟨cM, 1, none⟩ = some (.int .i64 m.bal.1) ∧ u.cell? ⟨cM, 2, none⟩ = some (.int .i64 m.bal.2) ∧ u.cell? ⟨cM, 3, none⟩ = some (.int .i64 m.slot) ∧ u.cell? ⟨cM, 4, none⟩ = some (.int .i64 m.frm) ∧ u.cell? ⟨cM, 6, none⟩ = some (.int .i64 m.idx) ∧ u.cell? ⟨cM, 16, none⟩ = some (.slice ad m.data.length cd) ∧ u.cell? ⟨cM, 17, none⟩ = some (.slice ag m.sig.length cg)) from
    fun u hu => ⟨(r2.below hu).cell (j := 1) rfl, (r2.below hu).cell (j := 2) rfl, (r2.below hu).cell (j := 3) rfl, (r2.below hu).cell (j := 4) rfl, (r2.below hu).cell (j := 6) rfl, (r2.below hu).cell (j := 16) rfl, (r2.below hu).cell (j := 17) rfl⟩)
  have c0 := r2.cell (j := 0) rfl
  have c4 := r2.cell (j := 4) rfl
  have c6 := r2.cell (j := 6) rfl
  have HR := Bb.refRight_any w2 n
  obtain ⟨R, hR⟩ : ∃ R, R = Bal.rgt n := ⟨_, rfl⟩
  rw [← hR] at HR HM
  clear hR
  obtain ⟨K, hK⟩ : ∃ K, K = m.kind := ⟨_, rfl⟩
  obtain ⟨F, hF⟩ : ∃ F, F = m.frm := ⟨_, rfl⟩
  obtain ⟨I, hI⟩ : ∃ I, I = m.idx := ⟨_, rfl⟩
  rw [← hK] at c0 HM
  rw [← hF] at c4 HM HV1 HV2 SV HYS
  rw [← hI] at c6 HM HV1 HV2 SV
  clear hK hF hI hs2 hz t5 t6
  by_cases hk : K = 13
  case neg =>
    have hN : chkL l n = false := by rw [HL.out, HM.out]; simp [hk]
    clear HL HM HYS HB1 HB2 HV1 HV2 SK
    go_wp2_with fail
    go_ret2
    exact HNO.out hN _ B2
  subst hk
  cases R with
  | false =>
    have hN : chkL l n = false := by rw [HL.out, HM.out]; simp
    clear HL HM HYS HB1 HB2 HV1 HV2 SK
    go_wp2_with (go_at_call 25; refine HR.mono ?_; rintro e w3 ⟨rfl, h3⟩; have h3 := h3.symm; subst h3)
    go_ret2
    exact HNO.out hN _ B2
  | true =>
    by_cases h0 : 0 ≤ F
    case neg =>
      have hN : chkL l n = false := by rw [HL.out, HM.out]; simp [h0]
      clear HL HM HYS HB1 HB2 HV1 HV2 SK
      go_wp2_with (go_at_call 25; refine HR.mono ?_; rintro e w3 ⟨rfl, h3⟩; have h3 := h3.symm; subst h3)
      go_ret2
      exact HNO.out hN _ B2
    by_cases h1 : F < n
    case neg =>
      have hN : chkL l n = false := by rw [HL.out, HM.out]; simp [h1]
      clear HL HM HYS HB1 HB2 HV1 HV2 SK
      go_wp2_with (go_at_call 25; refine HR.mono ?_; rintro e w3 ⟨rfl, h3⟩; have h3 := h3.symm; subst h3)
      go_ret2
      exact HNO.out hN _ B2
    by_cases hI : I = 2 ∨ I = 3
    case neg =>
      have h2 : ¬ I = 2 := fun e => hI (.inl e)
      have h3 : ¬ I = 3 := fun e => hI (.inr e)
      have h2' : (I != 2) = true := by simpa using h2
      have h3' : (I != 3) = true := by simpa using h3
      have hN : chkL l n = false := by rw [HL.out, HM.out]; simp [h2, h3]
      clear HL HM HYS HB1 HB2 HV1 HV2 SK
      go_wp2_with (go_at_call 25; refine HR.mono ?_; rintro e w3 ⟨rfl, h3⟩; have h3 := h3.symm; subst h3)
      go_ret2
      exact HNO.out hN _ B2
    replace HL : chkL l n = (decide (cmpL (body m.req) (body m.oth) < 0) && vtd m m.req m.sig && vtd m m.oth m.data) := by
      rw [HL.out, HM.out, HSH.out]
      rcases hI with h | h <;> simp [h, h0, h1]
    clear HM HSH
    obtain ⟨q0, q1, q2, q3, q4, q5, q6, q7⟩ := SK.out w2 (Below.refl _ _)
    have hdw : Below w2.heap.size w2 w2.drew := ⟨rfl, rfl, rfl, Nat.le_refl _, fun _ _ => rfl⟩
    have HL := (show Hid (chkL l n = (decide (cmpL (body m.req) (body m.oth) < 0) && vtd m m.req m.sig && vtd m m.oth m.data)) from HL)
    rcases hI with rfl | rfl
    · go_upto_region 4 with (go_at_call 25; refine HR.mono ?_; rintro e w3 ⟨rfl, h3⟩; have h3 := h3.symm; subst h3)
      clear HR c0 c4 c6 h0 h1
      go_wp2_with fail
      go_region_held3 (fun u => u.cell? ⟨cM, 8, none⟩ = some (.int .i64 m.req.1) ∧ u.cell? ⟨cM, 9, none⟩ = some (.int .i64 m.req.2.1) ∧ u.cell? ⟨cM, 10, none⟩ = some o ∧ u.cell? ⟨cM, 11, none⟩ = some g ∧ u.cell? ⟨cM, 12, none⟩ = some (.int .i64 m.oth.1) ∧ u.cell? ⟨cM, 13, none⟩ = some (.int .i64 m.oth.2.1) ∧ u.cell? ⟨cM, 14, none⟩ = some o' ∧ u.cell? ⟨cM, 15, none⟩ = some g')
        (first | exact SK.out _ B4 | exact SK.out _ B3 | exact SK.out _ hdw | go_keep)
        (first
          | (go_at_call 26; refine (HB2.out w3 B3).mono ?_; rintro e w4 ⟨v4, rfl, o4, f4, b4⟩; have B4 : Below w2.heap.size w2 w4 := below_and B3 (Nat.le_refl _) b4)
          | (go_at_call 26; refine (HB1.out w2.drew hdw).mono ?_; rintro e w3 ⟨v3, rfl, o3, f3, b3⟩; have B3 : Below w2.heap.size w2 w3 := below_and hdw (Nat.le_refl _) b3))
      have R1 := (o3.rd y1).below b4
      have R2 := o4.rd y2
      have HLS := (show Hid (Op.bytesLess (strOfNums (body m.req)).toList (strOfNums (body m.oth)).toList = decide (cmpL (body m.req) (body m.oth) < 0)) from less_str y1 y2)
      have HX1 := HV1.out w4 v3 B4 R1
      have HX2 := (show Hid (∀ u, Below w4.heap.size w4 u → Calls Tryz.prog 27 #[.int .i64 2, .agg #[.int .i64 m.bal.1, .int .i64 m.bal.2], .int .i64 m.slot, v4, .agg #[.int .i64 F, .slice ad m.data.length cd]] u fun e w' => e = .returned (.bool (vtd m m.oth m.data)) ∧ Below u.heap.size u w') from fun u hu => HV2.out u v4 (below_and B4 (Nat.le_refl _) hu) (R2.below hu))
      obtain ⟨z1, z2, z3, z4, z6, z16, z17⟩ := SV.out w4 B4
      have SV4 := (show Hid (∀ u, Below w4.heap.size w4 u → u.cell? ⟨cM, 1, none⟩ = some (.int .i64 m.bal.1) ∧ u.cell? ⟨cM, 2, none⟩ = some (.int .i64 m.bal.2) ∧ u.cell? ⟨cM, 3, none⟩ = some (.int .i64 m.slot) ∧ u.cell? ⟨cM, 4, none⟩ = some (.int .i64 F) ∧ u.cell? ⟨cM, 6, none⟩ = some (.int .i64 2) ∧ u.cell? ⟨cM, 16, none⟩ = some (.slice ad m.data.length cd) ∧ u.cell? ⟨cM, 17, none⟩ = some (.slice ag m.sig.length cg)) from fun u hu => SV.out u (below_and B4 (Nat.le_refl _) hu))
      have BB := below_and B2 (Nat.le_refl _) B4
      have E1 := run_str R1
      have E2 := run_str R2
      have HL := HL.out
      have HLS := HLS.out
      clear HB1 HB2 HV1 HV2 SK SV q0 q1 q2 q3 q4 q5 q6 q7 R1 R2 o3 o4 f3 f4 b3 b4 B3 B4 hdw y1 y2
      generalize strOfNums (body m.req) = X1 at *
      generalize strOfNums (body m.oth) = X2 at *
      generalize cmpL (body m.req) (body m.oth) = C at *
      generalize vtd m m.req m.sig = V1 at *
      generalize vtd m m.oth m.data = V2 at *
      by_cases hc : C < 0
      case neg =>
        rw [decide_eq_false hc] at HL HLS
        rw [Bool.false_and, Bool.false_and] at HL
        have hN := (show Hid (chkL l n = false) from HL)
        clear HL HX1 HX2 HYS
        go_wp2_with fail
        go_ret2
        exact HNO.out hN.out _ BB
      rw [decide_eq_true hc] at HL HLS
      rw [Bool.true_and] at HL
      clear hc
      cases V1 with
      | false =>
        rw [Bool.false_and] at HL
        have hN := (show Hid (chkL l n = false) from HL)
        clear HL HX2 HYS
        go_wp2_with (go_at_call 27; refine HX1.mono ?_; rintro e w5 ⟨rfl, b5⟩)
        go_ret2
        exact HNO.out hN.out _ (below_and BB (Nat.le_refl _) b5)
      | true =>
        rw [Bool.true_and] at HL
        cases V2 with
        | false =>
          have hN := (show Hid (chkL l n = false) from HL)
          clear HL HYS
          go_wp2_with (first
            | (go_at_call 27; refine (HX2.out w5 b5).mono ?_; rintro e w6 ⟨rfl, b6⟩)
            | (go_at_call 27; refine HX1.mono ?_; rintro e w5 ⟨rfl, b5⟩; obtain ⟨x1, x2, x3, x4, x6, x16, x17⟩ := SV4.out w5 b5))
          go_ret2
          exact HNO.out hN.out _ (below_and (below_and BB (Nat.le_refl _) b5) (Nat.le_refl _) b6)
        | true =>
          have hN := (show Hid (chkL l n = true) from HL)
          clear HL HNO
          go_wp2_with (first
            | (go_at_call 27; refine (HX2.out w5 b5).mono ?_; rintro e w6 ⟨rfl, b6⟩; obtain ⟨x1, x2, x3, x4, x6, x16, x17⟩ := SV4.out w6 (below_and b5 (Nat.le_refl _) b6))
            | (go_at_call 27; refine HX1.mono ?_; rintro e w5 ⟨rfl, b5⟩; obtain ⟨x1, x2, x3, x4, x6, x16, x17⟩ := SV4.out w5 b5))
          go_ret2
          exact HYS.out hN.out _ (below_and (below_and BB (Nat.le_refl _) b5) (Nat.le_refl _) b6)
    · go_upto_region 4 with (go_at_call 25; refine HR.mono ?_; rintro e w3 ⟨rfl, h3⟩; have h3 := h3.symm; subst h3)
      clear HR c0 c4 c6 h0 h1
      go_wp2_with fail
      go_region_held3 (fun u => u.cell? ⟨cM, 8, none⟩ = some (.int .i64 m.req.1) ∧ u.cell? ⟨cM, 9, none⟩ = some (.int .i64 m.req.2.1) ∧ u.cell? ⟨cM, 10, none⟩ = some o ∧ u.cell? ⟨cM, 11, none⟩ = some g ∧ u.cell? ⟨cM, 12, none⟩ = some (.int .i64 m.oth.1) ∧ u.cell? ⟨cM, 13, none⟩ = some (.int .i64 m.oth.2.1) ∧ u.cell? ⟨cM, 14, none⟩ = some o' ∧ u.cell? ⟨cM, 15, none⟩ = some g')
        (first | exact SK.out _ B4 | exact SK.out _ B3 | exact SK.out _ hdw | go_keep)
        (first
          | (go_at_call 26; refine (HB2.out w3 B3).mono ?_; rintro e w4 ⟨v4, rfl, o4, f4, b4⟩; have B4 : Below w2.heap.size w2 w4 := below_and B3 (Nat.le_refl _) b4)
          | (go_at_call 26; refine (HB1.out w2.drew hdw).mono ?_; rintro e w3 ⟨v3, rfl, o3, f3, b3⟩; have B3 : Below w2.heap.size w2 w3 := below_and hdw (Nat.le_refl _) b3))
      have R1 := (o3.rd y1).below b4
      have R2 := o4.rd y2
      have HLS := (show Hid (Op.bytesLess (strOfNums (body m.req)).toList (strOfNums (body m.oth)).toList = decide (cmpL (body m.req) (body m.oth) < 0)) from less_str y1 y2)
      have HX1 := HV1.out w4 v3 B4 R1
      have HX2 := (show Hid (∀ u, Below w4.heap.size w4 u → Calls Tryz.prog 27 #[.int .i64 3, .agg #[.int .i64 m.bal.1, .int .i64 m.bal.2], .int .i64 m.slot, v4, .agg #[.int .i64 F, .slice ad m.data.length cd]] u fun e w' => e = .returned (.bool (vtd m m.oth m.data)) ∧ Below u.heap.size u w') from fun u hu => HV2.out u v4 (below_and B4 (Nat.le_refl _) hu) (R2.below hu))
      obtain ⟨z1, z2, z3, z4, z6, z16, z17⟩ := SV.out w4 B4
      have SV4 := (show Hid (∀ u, Below w4.heap.size w4 u → u.cell? ⟨cM, 1, none⟩ = some (.int .i64 m.bal.1) ∧ u.cell? ⟨cM, 2, none⟩ = some (.int .i64 m.bal.2) ∧ u.cell? ⟨cM, 3, none⟩ = some (.int .i64 m.slot) ∧ u.cell? ⟨cM, 4, none⟩ = some (.int .i64 F) ∧ u.cell? ⟨cM, 6, none⟩ = some (.int .i64 3) ∧ u.cell? ⟨cM, 16, none⟩ = some (.slice ad m.data.length cd) ∧ u.cell? ⟨cM, 17, none⟩ = some (.slice ag m.sig.length cg)) from fun u hu => SV.out u (below_and B4 (Nat.le_refl _) hu))
      have BB := below_and B2 (Nat.le_refl _) B4
      have E1 := run_str R1
      have E2 := run_str R2
      have HL := HL.out
      have HLS := HLS.out
      clear HB1 HB2 HV1 HV2 SK SV q0 q1 q2 q3 q4 q5 q6 q7 R1 R2 o3 o4 f3 f4 b3 b4 B3 B4 hdw y1 y2
      generalize strOfNums (body m.req) = X1 at *
      generalize strOfNums (body m.oth) = X2 at *
      generalize cmpL (body m.req) (body m.oth) = C at *
      generalize vtd m m.req m.sig = V1 at *
      generalize vtd m m.oth m.data = V2 at *
      by_cases hc : C < 0
      case neg =>
        rw [decide_eq_false hc] at HL HLS
        rw [Bool.false_and, Bool.false_and] at HL
        have hN := (show Hid (chkL l n = false) from HL)
        clear HL HX1 HX2 HYS
        go_wp2_with fail
        go_ret2
        exact HNO.out hN.out _ BB
      rw [decide_eq_true hc] at HL HLS
      rw [Bool.true_and] at HL
      clear hc
      cases V1 with
      | false =>
        rw [Bool.false_and] at HL
        have hN := (show Hid (chkL l n = false) from HL)
        clear HL HX2 HYS
        go_wp2_with (go_at_call 27; refine HX1.mono ?_; rintro e w5 ⟨rfl, b5⟩)
        go_ret2
        exact HNO.out hN.out _ (below_and BB (Nat.le_refl _) b5)
      | true =>
        rw [Bool.true_and] at HL
        cases V2 with
        | false =>
          have hN := (show Hid (chkL l n = false) from HL)
          clear HL HYS
          go_wp2_with (first
            | (go_at_call 27; refine (HX2.out w5 b5).mono ?_; rintro e w6 ⟨rfl, b6⟩)
            | (go_at_call 27; refine HX1.mono ?_; rintro e w5 ⟨rfl, b5⟩; obtain ⟨x1, x2, x3, x4, x6, x16, x17⟩ := SV4.out w5 b5))
          go_ret2
          exact HNO.out hN.out _ (below_and (below_and BB (Nat.le_refl _) b5) (Nat.le_refl _) b6)
        | true =>
          have hN := (show Hid (chkL l n = true) from HL)
          clear HL HNO
          go_wp2_with (first
            | (go_at_call 27; refine (HX2.out w5 b5).mono ?_; rintro e w6 ⟨rfl, b6⟩; obtain ⟨x1, x2, x3, x4, x6, x16, x17⟩ := SV4.out w6 (below_and b5 (Nat.le_refl _) b6))
            | (go_at_call 27; refine HX1.mono ?_; rintro e w5 ⟨rfl, b5⟩; obtain ⟨x1, x2, x3, x4, x6, x16, x17⟩ := SV4.out w5 b5))
          go_ret2
          exact HYS.out hN.out _ (below_and (below_and BB (Nat.le_refl _) b5) (Nat.le_refl _) b6)
end Go.Proofs.YtgjepofinpmcpaaGreatDoor
