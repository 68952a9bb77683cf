/- choose.All. Written by mk20u.py. -/
import Derived.Test.YtgbfmccecnfooaaGreatDoorCLBT
set_option linter.unusedSimpArgs false
set_option linter.unusedVariables false
namespace Go.Proofs.YtgbfmccecnfooaaGreatDoor
section
open Go.RowKit Oct Bal
set_option maxRecDepth 10000 in
set_option maxHeartbeats 4000000 in
theorem isStabC_any (w : World) (r : List Value) (x : PRep) (n : Int) (h : RRep Any w r x) (hT : Tab w) :
    Calls Tryz.prog 32 #[.agg r.toArray, .int .i64 n] w fun e w' => e = .returned (.bool (stabL n x)) ∧ Below w.heap.size w w' := by
  obtain ⟨rd, rs, rp, rg, rfl, t1, t2, t3, t4⟩ := h
  obtain ⟨ad, cd, rfl, _⟩ := t1.form
  obtain ⟨av, cv, rfl, _⟩ := t2.form
  obtain ⟨ap, cp, rfl, _⟩ := t3.form
  obtain ⟨w1, hw1⟩ : ∃ u, u = w.alloc (.cells #[.int .i64 x.1.1, .int .i64 x.1.2, .int .i64 x.2.1, .int .i64 x.2.2.1, .slice ad x.2.2.2.1.length cd, .slice av x.2.2.2.2.1.length cv, .slice ap x.2.2.2.2.2.1.length cp, rg] 28) := ⟨_, rfl⟩
  have r1 : Row w1 w.heap.size 28 [.int .i64 x.1.1, .int .i64 x.1.2, .int .i64 x.2.1, .int .i64 x.2.2.1, .slice ad x.2.2.2.1.length cd, .slice av x.2.2.2.2.1.length cv, .slice ap x.2.2.2.2.2.1.length cp, rg] := by rw [hw1]; exact Row.new _ _ _
  have b1 : Below w.heap.size w w1 := by rw [hw1]; exact below_alloc _ _
  have HCE := (show Hid (x.2.2.2.1.length = 32 → Calls Tryz.prog 60 #[.int .i64 10, .agg #[.int .i64 0, .int .i64 0], .int .i64 x.2.2.1, .slice ad x.2.2.2.1.length cd, .slice av x.2.2.2.2.1.length cv, .int .i64 n] w1 fun e w' => e = .returned (.bool (certL (rightV 10 0 0 x.2.2.1 x.2.2.2.1) n x.2.2.2.2.1)) ∧ Below w1.heap.size w1 w') from fun h32 => vCert_any w1 10 0 0 x.2.2.1 _ _ n _ _ (t1.mv (Mv.below b1)).1 (by omega) (t2.mv mov_vote b1.size (Mv.below b1)) (hT.below b1))
  have k3 := r1.cell (j := 3) rfl
  have k4 := r1.cell (j := 4) rfl
  have k5 := r1.cell (j := 5) rfl
  have hbz : ∀ u, (Instr.build 23 #[]).run Tryz.prog u = .ok (.agg #[.int .i64 0, .int .i64 0]) u := fun u => by kernel_rfl
  unfold stabL
  clear t1 t2 t3 t4 r1 hT
  generalize certL (rightV 10 0 0 x.2.2.1 x.2.2.2.1) n x.2.2.2.2.1 = cv0 at *
  generalize x.2.2.2.1.length = dl at *
  generalize x.2.2.2.2.1.length = vl at *
  generalize x.2.2.1 = low at *
  by_cases h0 : low = 0
  · subst h0
    rw [if_pos rfl]
    by_cases hd : dl = 0
    · subst hd
      have d2 : ((vl : Int) == 0) = decide (vl = 0) := by rw [Bool.eq_iff_iff]; simp
      go_enter Tryz.func32, Tryz.ntmps32
      go_upto_region 1 with fail
      rw [← hw1]
      clear hw1
      go_wp2_with fail
      go_ret
      exact ⟨by simp [d2], b1⟩
    · have d1 : ((dl : Int) == 0) = false := by simp; omega
      go_enter Tryz.func32, Tryz.ntmps32
      go_upto_region 1 with fail
      rw [← hw1]
      clear hw1
      go_wp2_with fail
      go_ret
      exact ⟨by simp [hd], b1⟩
  have d0 : (low == 0) = false := by simpa using h0
  rw [if_neg h0]
  by_cases h4 : 4 ≤ low
  case neg =>
    have d1 : decide (4 ≤ low) = false := by simpa using h4
    go_enter Tryz.func32, Tryz.ntmps32
    go_upto_region 1 with fail
    rw [← hw1]
    clear hw1
    go_wp2_with fail
    go_ret
    exact ⟨by simp [d1], b1⟩
  have d1 : decide (4 ≤ low) = true := by simpa using h4
  by_cases hM : low ≤ 1000000
  case neg =>
    have d2 : decide (low ≤ 1000000) = false := by simpa using hM
    go_enter Tryz.func32, Tryz.ntmps32
    go_upto_region 1 with fail
    rw [← hw1]
    clear hw1
    go_wp2_with fail
    go_ret
    exact ⟨by simp [d2], b1⟩
  have d2 : decide (low ≤ 1000000) = true := by simpa using hM
  have htm : Int.tmod low 4 = low % 4 := Int.tmod_eq_emod_of_nonneg (by omega)
  have hwr : wrap64 (low % 4) = low % 4 := IntWalk.wrap64_in _ ⟨by omega, by omega⟩
  rw [htm]
  by_cases hr : low % 4 = 0
  case neg =>
    have d3 : (low % 4 == 0) = false := by simpa using hr
    go_enter Tryz.func32, Tryz.ntmps32
    go_upto_region 1 with fail
    rw [← hw1]
    clear hw1
    go_wp2_with fail
    go_ret
    exact ⟨by simp [hr], b1⟩
  have d3 : (low % 4 == 0) = true := by simpa using hr
  by_cases hl : dl = 32
  case neg =>
    have d4 : ((dl : Int) == 32) = false := by simp; omega
    go_enter Tryz.func32, Tryz.ntmps32
    go_upto_region 1 with fail
    rw [← hw1]
    clear hw1
    go_wp2_with fail
    go_ret
    exact ⟨by simp [hl], b1⟩
  subst hl
  have hce := HCE.out rfl
  go_enter Tryz.func32, Tryz.ntmps32
  go_upto_region 1 with fail
  rw [← hw1]
  clear hw1
  go_wp2_with (go_at_call 60; refine hce.mono ?_; rintro e w2 ⟨rfl, b2⟩)
  go_ret
  exact ⟨by simp [d1, d2, hr], below_and b1 (Nat.le_refl _) b2⟩
set_option maxRecDepth 10000 in
set_option maxHeartbeats 8000000 in
theorem arePrepC_any (w : World) (r : List Value) (x : PRep) (n : Int) (h : RRep Any w r x) (hq : okQ x) (hlow : 0 ≤ x.2.2.1 ∧ x.2.2.1 ≤ 1000000) (hT : Tab w) :
    Calls Tryz.prog 33 #[.agg r.toArray, .int .i64 n] w fun e w' => e = .returned (.bool (prepsW x.1 n x.2.2.1 x.2.2.1 x.2.2.2.2.2.1)) ∧ Below w.heap.size w w' := by
  obtain ⟨rd, rs, rp, rg, rfl, t1, t2, t3, t4⟩ := h
  obtain ⟨ap, cp, rfl, _⟩ := t3.form
  obtain ⟨w1, hw1⟩ : ∃ u, u = w.alloc (.cells #[.int .i64 x.1.1, .int .i64 x.1.2, .int .i64 x.2.1, .int .i64 x.2.2.1, rd, rs, .slice ap x.2.2.2.2.2.1.length cp, rg] 28) := ⟨_, rfl⟩
  have r1 : Row w1 w.heap.size 28 [.int .i64 x.1.1, .int .i64 x.1.2, .int .i64 x.2.1, .int .i64 x.2.2.1, rd, rs, .slice ap x.2.2.2.2.2.1.length cp, rg] := by rw [hw1]; exact Row.new _ _ _
  have b1 : Below w.heap.size w w1 := by rw [hw1]; exact below_alloc _ _
  have hlp : (x.2.2.2.2.2.1.length : Int) ≤ 9223372036854775807 := by
    by_cases h0 : 0 < x.2.2.2.2.2.1.length
    · obtain ⟨_, _, _, _, h1, h2, _⟩ := t3.at h0
      unfold maxLen at h2
      omega
    · omega
  have HT := (show Hid (RL RPrep 8 Any w (.slice ap x.2.2.2.2.2.1.length cp) x.2.2.2.2.2.1) from t3)
  have HTB := (show Hid (Tab w) from hT)
  have HQ := (show Hid (okQ x) from hq)
  have k3 := r1.cell (j := 3) rfl
  have k6 := r1.cell (j := 6) rfl
  unfold okQ at HQ
  generalize x.2.2.2.2.2.1 = PS at *
  generalize x.2.2.1 = low at *
  have hwr : wrap64 (low + 16) = low + 16 := IntWalk.wrap64_in _ ⟨by omega, by omega⟩
  clear t1 t2 t3 t4 hT hq
  go_enter Tryz.func33, Tryz.ntmps33
  go_upto_region 1 with fail
  rw [← hw1]
  clear hw1
  go_wp2_with fail
  go_loopw [5, 13] (fun s5 j wr => ∃ (i : Nat) (last : Int), i ≤ PS.length ∧ j = .int .i64 i ∧ s5 = .int .i64 last ∧ prepsW x.1 n low low PS = prepsW x.1 n low last (PS.drop i) ∧ Below w.heap.size w wr ∧ Below w1.heap.size w1 wr) (fun _ j _ => PS.length - (intOf j).toNat)
  case atStart => exact ⟨0, low, by omega, rfl, rfl, rfl, b1, Below.refl _ _⟩
  case round =>
    obtain ⟨i, last, hi, rfl, rfl, hW, hB, hB1⟩ := hrel
    by_cases hil : i < PS.length
    case neg =>
      rw [List.drop_of_length_le (by omega)] at hW
      have HW := (show Hid (_ = _) from hW)
      clear hW
      go_wp2_with fail
      go_ret
      exact ⟨by rw [HW.out]; rfl, hB⟩
    obtain ⟨P, hP⟩ : ∃ P, PS[i]? = some P := ⟨_, List.getElem?_eq_getElem hil⟩
    obtain ⟨bw, offp, capp, hve, _, _, _, hbw, hat⟩ := (HT.out).at (by omega)
    obtain ⟨rww, _, hrnp, po, ps, pc, rfl, u1, u2, u3⟩ := hat i _ hP
    injection hve with hv1 hv2 hv3
    subst hv1 hv3
    clear hv2 hat
    have hrnp := rangeAt_block hrnp (hB.block bw hbw)
    have hrow0 := Row.new wr 66 [.int .i64 0, .int .i64 0, .int .i64 0, .int .i64 0, .int .i64 0, .slice none 0 0, .slice none 0 0, .slice none 0 0]
    have hon := one_RPrep (G := Any) (w := w) (x := P) ⟨po, ps, pc, rfl, u1, u2, u3⟩
    go_upto_region 5 with (first
      | (refine wpList_load_mid rfl _ _ rfl bw (offp + i * 8) rfl [.int .i64 P.1, .int .i64 P.2.1.1, .int .i64 P.2.1.2, .int .i64 P.2.2.1.1, .int .i64 P.2.2.1.2.1, po, ps, pc] _ hrnp Tryz.underlying66 rfl (by kernel_rfl) ?_)
      | (refine wl_store rfl _ _ _ rfl wr.heap.size [.int .i64 P.1, .int .i64 P.2.1.1, .int .i64 P.2.1.2, .int .i64 P.2.2.1.1, .int .i64 P.2.2.1.2.1, po, ps, pc] rfl rfl _ _ hrow0 rfl (by kernel_rfl) hon ?_; intro w9 rP g9))
    have b9 : Below wr.heap.size wr w9 := (below_alloc wr (.cells ([.int .i64 0, .int .i64 0, .int .i64 0, .int .i64 0, .int .i64 0, .slice none 0 0, .slice none 0 0, .slice none 0 0] : List Value).toArray 66)).trans (grown_below g9 (by simp) (fun k hk => by cases hk; exact Nat.le_refl _))
    have rP := rP.out
    have hB9 := below_and hB (Nat.le_refl _) b9
    obtain ⟨cP, hcP⟩ : ∃ c, c = wr.heap.size := ⟨_, rfl⟩
    rw [← hcP] at rP ⊢
    clear hrow0 g9 hrnp hon
    clear hcP
    have r9 := (r1.below hB1).below b9
    have c3 := r9.cell (j := 3) rfl
    have c0 := rP.cell (j := 0) rfl
    have hst : PS.drop i = P :: PS.drop (i + 1) := List.drop_eq_getElem_cons hil ▸ by rw [(List.getElem?_eq_some_iff.1 hP).2]
    rw [hst] at hW
    have HW := (show Hid (_ = _) from hW)
    have hIP := isPrepC_any w9 [.int .i64 P.1, .int .i64 P.2.1.1, .int .i64 P.2.1.2, .int .i64 P.2.2.1.1, .int .i64 P.2.2.1.2.1, po, ps, pc] P x.1 n (mov_prep _ _ _ _ _ _ (⟨_, _, _, rfl, u1, u2, u3⟩ : RPrep Any w [.int .i64 P.1, .int .i64 P.2.1.1, .int .i64 P.2.1.2, .int .i64 P.2.2.1.1, .int .i64 P.2.2.1.2.1, po, ps, pc] P) hB9.size (Mv.below hB9)) (HQ.out P (List.mem_of_getElem? hP)) (HTB.out.below hB9)
    have hB19 := below_and hB1 (Nat.le_refl _) b9
    clear hst hP u1 u2 u3 hW hB hB1 b9
    have hWu : prepsW x.1 n low last (P :: PS.drop (i + 1)) = (decide (last < P.1) && decide (P.1 ≤ low + 16) && prepdL x.1 n P && prepsW x.1 n low P.1 (PS.drop (i + 1))) := rfl
    have HWU := (show Hid (_ = _) from hWu)
    clear hWu
    by_cases h1 : P.1 ≤ last
    case pos =>
      have d1 : decide (P.1 ≤ last) = true := by simpa using h1
      go_wp2_with fail
      go_ret
      exact ⟨by rw [HW.out, HWU.out, show decide (last < P.1) = false by simp; omega]; rfl, hB9⟩
    have d1 : decide (P.1 ≤ last) = false := by simpa using h1
    by_cases h2 : low + 16 < P.1
    case pos =>
      have d2 : decide (low + 16 < P.1) = true := by simpa using h2
      go_wp2_with fail
      go_ret
      exact ⟨by rw [HW.out, HWU.out, show decide (P.1 ≤ low + 16) = false by simp; omega]; simp, hB9⟩
    have d2 : decide (low + 16 < P.1) = false := by simp; omega
    cases hp : prepdL x.1 n P with
    | false =>
      rw [hp] at hIP
      go_wp2_with (first
        | (refine wl_load_w (by rfl) _ _ rfl cP rfl _ _ rP _ Tryz.underlying66 rfl (by kernel_rfl) ?_)
        | (refine wl_part_w (by rfl) _ _ rfl w.heap.size 0 rfl _ _ r9 [.int .i64 x.1.1, .int .i64 x.1.2] rfl _ Tryz.underlying23 rfl (by kernel_rfl) ?_)
        | (go_at_call 61; refine hIP.mono ?_; rintro e wx ⟨rfl, bx⟩))
      go_ret
      exact ⟨by rw [HW.out, HWU.out, hp]; simp, below_and hB9 (Nat.le_refl _) bx⟩
    | true =>
      rw [hp] at hIP
      go_wp2_with (first
        | (refine wl_load_w (by rfl) _ _ rfl cP rfl _ _ rP _ Tryz.underlying66 rfl (by kernel_rfl) ?_)
        | (refine wl_part_w (by rfl) _ _ rfl w.heap.size 0 rfl _ _ r9 [.int .i64 x.1.1, .int .i64 x.1.2] rfl _ Tryz.underlying23 rfl (by kernel_rfl) ?_)
        | (go_at_call 61; refine hIP.mono ?_; rintro e wx ⟨rfl, bx⟩; have cx0 := (rP.below bx).cell (j := 0) rfl))
      go_roundw
      case rel => exact ⟨i + 1, P.1, by omega, by go_num, rfl, by rw [HW.out, HWU.out, hp, show decide (last < P.1) = true by simp; omega, show decide (P.1 ≤ low + 16) = true by simp; omega]; rfl, below_and hB9 (Nat.le_refl _) bx, below_and hB19 (Nat.le_refl _) bx⟩
      case measure => simp [intOf]; omega
set_option maxRecDepth 10000 in
set_option maxHeartbeats 8000000 in
theorem rightC_any (w : World) (r : List Value) (x : PRep) (n : Int) (h : RRep Any w r x) (hq : okQ x) (hT : Tab w) :
    Calls Tryz.prog 8 #[.agg r.toArray, .int .i64 n] w fun e w' => e = .returned (.bool (rgtR n x)) ∧ Below w.heap.size w w' := by
  have hall := h
  obtain ⟨rd, rs, rp, rg, rfl, t1, t2, t3, t4⟩ := h
  obtain ⟨w1, hw1⟩ : ∃ u, u = w.alloc (.cells #[.int .i64 x.1.1, .int .i64 x.1.2, .int .i64 x.2.1, .int .i64 x.2.2.1, rd, rs, rp, rg] 28) := ⟨_, rfl⟩
  have r1 : Row w1 w.heap.size 28 [.int .i64 x.1.1, .int .i64 x.1.2, .int .i64 x.2.1, .int .i64 x.2.2.1, rd, rs, rp, rg] := by rw [hw1]; exact Row.new _ _ _
  have b1 : Below w.heap.size w w1 := by rw [hw1]; exact below_alloc _ _
  have hR1 := mov_rep _ _ _ _ _ _ hall b1.size (Mv.below b1)
  have hT1 := hT.below b1
  obtain ⟨w2, hw2⟩ : ∃ u, u = w1.alloc (.cells #[.int .i64 x.1.1, .int .i64 x.1.2, .int .i64 x.2.1, .int .i64 x.2.2.1, rd, rs, rp, rg] 28) := ⟨_, rfl⟩
  have b2 : Below w1.heap.size w1 w2 := by rw [hw2]; exact below_alloc _ _
  have p2 : Row w2 w1.heap.size 28 ([[.int .i64 x.1.1, .int .i64 x.1.2, .int .i64 x.2.1, .int .i64 x.2.2.1, rd, rs, rp, rg]] : List (List Value)).flatten := by rw [hw2]; exact Row.new _ _ _
  have hR2 := mov_rep _ _ _ _ _ _ hR1 b2.size (Mv.below b2)
  have hL : RL RRep 8 Any w2 (.slice (some ⟨w1.heap.size, 0, none⟩) 1 1) [x] := RL.row (rows := [[.int .i64 x.1.1, .int .i64 x.1.2, .int .i64 x.2.1, .int .i64 x.2.2.1, rd, rs, rp, rg]]) p2 (by simp) (show 0 < 1 by decide) (show 1 ≤ maxLen by decide) ⟨hR2, trivial⟩
  have hS : Calls Tryz.prog 31 #[.agg #[.int .i64 8, .int .i64 0, .int .i64 0, .int .i64 0, .int .i64 0, .int .i64 0, .int .i64 0, .int .i64 0, .int .i64 0, .int .i64 0, .slice none 0 0, .slice none 0 0, .int .i64 0, .int .i64 0, .slice none 0 0, .slice none 0 0, .slice none 0 0, .slice none 0 0, .slice none 0 0, .slice none 0 0, .slice none 0 0, .slice none 0 0, .slice (some ⟨w1.heap.size, 0, none⟩) 1 1], .int .i64 x.2.1] w2 fun e w' => e = .returned (.bool (seaQ (mR x) x.2.1)) ∧ Below w2.heap.size w2 w' := sealed_any w2 (mR x) (sR (.slice (some ⟨w1.heap.size, 0, none⟩) 1 1)) x.2.1 (sR_ok hL) (hT1.below b2)
  have r2 := r1.below b2
  have B2 := below_and b1 (Nat.le_refl _) b2
  have HST := (show Hid (∀ u, Below w2.heap.size w2 u → Calls Tryz.prog 32 #[.agg #[.int .i64 x.1.1, .int .i64 x.1.2, .int .i64 x.2.1, .int .i64 x.2.2.1, rd, rs, rp, rg], .int .i64 n] u fun e w' => e = .returned (.bool (stabL n x)) ∧ Below u.heap.size u w') from fun u hu => isStabC_any u _ x n (mov_rep _ _ _ _ _ _ hR2 hu.size (Mv.below hu)) (hT.below (below_and B2 (Nat.le_refl _) hu)))
  have HPR := (show Hid (stabL n x = true → ∀ u, Below w2.heap.size w2 u → Calls Tryz.prog 33 #[.agg #[.int .i64 x.1.1, .int .i64 x.1.2, .int .i64 x.2.1, .int .i64 x.2.2.1, rd, rs, rp, rg], .int .i64 n] u fun e w' => e = .returned (.bool (prepsW x.1 n x.2.2.1 x.2.2.1 x.2.2.2.2.2.1)) ∧ Below u.heap.size u w') from fun hs u hu => arePrepC_any u _ x n (mov_rep _ _ _ _ _ _ hR2 hu.size (Mv.below hu)) hq (stab_low hs) (hT.below (below_and B2 (Nat.le_refl _) hu)))
  have HRI := (show Hid (Calls Tryz.prog 30 #[.int .i64 n] w1 fun e w' => e = .returned (.bool (rgt n)) ∧ w' = w1) from Bb.right_any w1 n)
  have k2 := r1.cell (j := 2) rfl
  have k22 := r2.cell (j := 2) rfl
  have HR2 := (show Hid (∀ u, Below w2.heap.size w2 u → Row u w.heap.size 28 [.int .i64 x.1.1, .int .i64 x.1.2, .int .i64 x.2.1, .int .i64 x.2.2.1, rd, rs, rp, rg]) from fun u hu => r2.below hu)
  clear t1 t2 t3 t4 hall hR1 hR2 hL hT hT1 p2 hq
  unfold rgtR
  generalize seaQ (mR x) x.2.1 = sq at *
  generalize rgt n = rr at *
  generalize stabL n x = st at *
  generalize prepsW x.1 n x.2.2.1 x.2.2.1 x.2.2.2.2.2.1 = pw at *
  generalize x.2.1 = rep at *
  have HWW := (show Hid (w1.alloc (.cells #[.int .i64 x.1.1, .int .i64 x.1.2, .int .i64 rep, .int .i64 x.2.2.1, rd, rs, rp, rg] 28) = w2) from hw2.symm)
  rw [← HWW.out] at k22
  clear hw2
  cases rr with
  | false =>
    go_enter Tryz.func8, Tryz.ntmps8
    go_upto_region 1 with fail
    rw [← hw1]
    clear hw1
    go_wp2_with (go_at_call 30; refine HRI.out.mono ?_; rintro e w' ⟨rfl, h'⟩; rw [h'])
    go_ret
    exact ⟨by simp, b1⟩
  | true =>
    by_cases h0 : 0 ≤ rep
    case neg =>
      have d0 : decide (0 ≤ rep) = false := by simpa using h0
      go_enter Tryz.func8, Tryz.ntmps8
      go_upto_region 1 with fail
      rw [← hw1]
      clear hw1
      go_wp2_with (go_at_call 30; refine HRI.out.mono ?_; rintro e w' ⟨rfl, h'⟩; rw [h'])
      go_ret
      exact ⟨by simp [d0], b1⟩
    have d0 : decide (0 ≤ rep) = true := by simpa using h0
    by_cases h1 : rep < n
    case neg =>
      have d1 : decide (rep < n) = false := by simpa using h1
      go_enter Tryz.func8, Tryz.ntmps8
      go_upto_region 1 with fail
      rw [← hw1]
      clear hw1
      go_wp2_with (go_at_call 30; refine HRI.out.mono ?_; rintro e w' ⟨rfl, h'⟩; rw [h'])
      go_ret
      exact ⟨by simp [d1], b1⟩
    have d1 : decide (rep < n) = true := by simpa using h1
    go_enter Tryz.func8, Tryz.ntmps8
    go_upto_region 1 with fail
    rw [← hw1]
    clear hw1
    cases sq with
    | false =>
      go_wp2_with (first
        | (go_at_call 30; refine HRI.out.mono ?_; rintro e w' ⟨rfl, h'⟩; rw [h'])
        | (refine wl_load_w (by rfl) _ _ rfl w.heap.size rfl _ _ r1 _ Tryz.underlying28 rfl (by kernel_rfl) ?_)
        | (go_at_call 31; rw [HWW.out]; refine hS.mono ?_; rintro e w3 ⟨rfl, b3⟩))
      go_ret
      exact ⟨by simp, below_and B2 (Nat.le_refl _) b3⟩
    | true =>
      cases st with
      | false =>
        go_wp2_with (first
          | (go_at_call 30; refine HRI.out.mono ?_; rintro e w' ⟨rfl, h'⟩; rw [h'])
          | (go_at_call 31; rw [HWW.out]; refine hS.mono ?_; rintro e w3 ⟨rfl, b3⟩; have r3 := HR2.out w3 b3)
          | (go_at_call 32; refine (HST.out w3 b3).mono ?_; rintro e w4 ⟨rfl, b4⟩)
          | (refine wl_load_w (by rfl) _ _ rfl w.heap.size rfl _ _ r3 _ Tryz.underlying28 rfl (by kernel_rfl) ?_)
          | (refine wl_load_w (by rfl) _ _ rfl w.heap.size rfl _ _ r1 _ Tryz.underlying28 rfl (by kernel_rfl) ?_))
        go_ret
        exact ⟨by simp, below_and B2 (Nat.le_refl _) (below_and b3 (Nat.le_refl _) b4)⟩
      | true =>
        go_wp2_with (first
          | (go_at_call 30; refine HRI.out.mono ?_; rintro e w' ⟨rfl, h'⟩; rw [h'])
          | (go_at_call 31; rw [HWW.out]; refine hS.mono ?_; rintro e w3 ⟨rfl, b3⟩; have r3 := HR2.out w3 b3)
          | (go_at_call 32; refine (HST.out w3 b3).mono ?_; rintro e w4 ⟨rfl, b4⟩; have B4 := below_and b3 (Nat.le_refl _) b4; have r4 := HR2.out w4 B4)
          | (go_at_call 33; refine (HPR.out (by trivial) w4 B4).mono ?_; rintro e w5 ⟨rfl, b5⟩)
          | (refine wl_load_w (by rfl) _ _ rfl w.heap.size rfl _ _ r4 _ Tryz.underlying28 rfl (by kernel_rfl) ?_)
          | (refine wl_load_w (by rfl) _ _ rfl w.heap.size rfl _ _ r3 _ Tryz.underlying28 rfl (by kernel_rfl) ?_)
          | (refine wl_load_w (by rfl) _ _ rfl w.heap.size rfl _ _ r1 _ Tryz.underlying28 rfl (by kernel_rfl) ?_))
        go_ret
        exact ⟨by simp [d0, d1], below_and B2 (Nat.le_refl _) (below_and B4 (Nat.le_refl _) b5)⟩
end
section
open Go.RowKit Oct Bal
/-- A quorum's reports, in the order of their replicas. -/
def allW (b : PBal) (n : Int) : Int → List PRep → Bool
  | _, [] => true
  | last, r :: rs => decide (last < r.2.1) && decide (r.1 = b) && rgtR n r && allW b n r.2.1 rs
def allL (b : PBal) (n : Int) (ys : List PRep) : Bool := rgt n && decide ((ys.length : Int) = quo n) && allW b n (-1) ys
set_option maxRecDepth 10000 in
set_option maxHeartbeats 8000000 in
theorem allC_any (w : World) (b : PBal) (v : Value) (ys : List PRep) (n : Int) (hvs : RL RRep 8 Any w v ys) (hq : ∀ r ∈ ys, okQ r) (hT : Tab w) :
    Calls Tryz.prog 11 #[.agg #[.int .i64 b.1, .int .i64 b.2], v, .int .i64 n] w fun e w' => e = .returned (.bool (allL b n ys)) ∧ Below w.heap.size w w' := by
  obtain ⟨aa, ca, rfl, _⟩ := hvs.form
  have hlv := len_rep hvs
  obtain ⟨w1, hw1⟩ : ∃ u, u = w.alloc (.cells #[.int .i64 b.1, .int .i64 b.2] 23) := ⟨_, rfl⟩
  have r1 : Row w1 w.heap.size 23 [.int .i64 b.1, .int .i64 b.2] := by rw [hw1]; exact Row.new _ _ _
  have b1 : Below w.heap.size w w1 := by rw [hw1]; exact below_alloc _ _
  have HBR := (show Hid (Calls Tryz.prog 30 #[.int .i64 n] w1 fun e w' => e = .returned (.bool (rgt n)) ∧ w' = w1) from Bb.right_any w1 n)
  have HBQ := (show Hid (Calls Tryz.prog 40 #[.int .i64 n] w1 fun e w' => e = .returned (.int .i64 (quo n)) ∧ w' = w1) from Bb.quorum_any w1 n)
  unfold allL
  cases hrr : rgt n with
  | false =>
    rw [hrr] at HBR
    clear hrr
    go_enter Tryz.func11, Tryz.ntmps11
    go_upto_region 1 with fail
    rw [← hw1]
    clear hw1
    go_wp2_with (go_at_call 30; refine HBR.out.mono ?_; rintro e w' ⟨rfl, h'⟩; rw [h'])
    go_ret
    exact ⟨by simp, b1⟩
  | true =>
    rw [hrr] at HBR
    clear hrr
    generalize quo n = q at *
    by_cases hq2 : (ys.length : Int) = q
    case neg =>
      have d1 : ((ys.length : Int) != q) = true := by simpa using hq2
      go_enter Tryz.func11, Tryz.ntmps11
      go_upto_region 1 with fail
      rw [← hw1]
      clear hw1
      go_wp2_with (first | (go_at_call 30; refine HBR.out.mono ?_; rintro e w' ⟨rfl, h'⟩; rw [h']) | (go_at_call 40; refine HBQ.out.mono ?_; rintro e w' ⟨rfl, h'⟩; rw [h']))
      go_ret
      exact ⟨by simp [hq2], b1⟩
    subst hq2
    have HN := (show Hid (ys.length = ys.length) from rfl)
    go_enter Tryz.func11, Tryz.ntmps11
    go_upto_region 1 with fail
    rw [← hw1]
    clear hw1
    go_wp2_with (first | (go_at_call 30; refine HBR.out.mono ?_; rintro e w' ⟨rfl, h'⟩; rw [h']) | (go_at_call 40; refine HBQ.out.mono ?_; rintro e w' ⟨rfl, h'⟩; rw [h']))
    clear HBR HBQ
    go_loopw [7, 22] (fun s7 j wr => ∃ (i : Nat) (last : Int), i ≤ ys.length ∧ j = .int .i64 i ∧ s7 = .int .i64 last ∧ allW b n (-1) ys = allW b n last (ys.drop i) ∧ Below w.heap.size w wr ∧ Below w1.heap.size w1 wr) (fun _ j _ => ys.length - (intOf j).toNat)
    case atStart => exact ⟨0, -1, by omega, rfl, rfl, rfl, b1, Below.refl _ _⟩
    case round =>
      obtain ⟨n0, last, hi, rfl, rfl, hW, hB, hB1⟩ := hrel
      by_cases hnl : n0 < ys.length
      case neg =>
        rw [List.drop_of_length_le (by omega)] at hW
        have HW := (show Hid (_ = _) from hW)
        clear hW
        go_wp2_with fail
        go_ret
        exact ⟨by rw [HW.out]; simp [allW], hB⟩
      obtain ⟨A, hA⟩ : ∃ A, ys[n0]? = some A := ⟨_, List.getElem?_eq_getElem hnl⟩
      obtain ⟨bv, off, cap, hve, _, _, _, hbv, hat⟩ := hvs.at (by omega)
      obtain ⟨rvv, _, hrng, rd, rs, rp, rg, rfl, t1, t2, t3, t4⟩ := hat n0 _ hA
      injection hve with hv1 hv2 hv3
      subst hv1 hv3
      clear hv2 hat
      have hrng := rangeAt_block hrng (hB.block bv hbv)
      have hrow0 := Row.new wr 28 [.int .i64 0, .int .i64 0, .int .i64 0, .int .i64 0, .slice none 0 0, .slice none 0 0, .slice none 0 0, .slice none 0 0]
      have hon := one_RRep (G := Any) (w := w) (x := A) ⟨rd, rs, rp, rg, rfl, t1, t2, t3, t4⟩
      go_upto_region 7 with (first
        | (refine wpList_load_mid rfl _ _ rfl bv (off + n0 * 8) rfl [.int .i64 A.1.1, .int .i64 A.1.2, .int .i64 A.2.1, .int .i64 A.2.2.1, rd, rs, rp, rg] _ hrng Tryz.underlying28 rfl (by kernel_rfl) ?_)
        | (refine wl_store rfl _ _ _ rfl wr.heap.size [.int .i64 A.1.1, .int .i64 A.1.2, .int .i64 A.2.1, .int .i64 A.2.2.1, rd, rs, rp, rg] rfl rfl _ _ hrow0 rfl (by kernel_rfl) hon ?_; intro w8 rR g8))
      have b8 : Below wr.heap.size wr w8 := (below_alloc wr (.cells ([.int .i64 0, .int .i64 0, .int .i64 0, .int .i64 0, .slice none 0 0, .slice none 0 0, .slice none 0 0, .slice none 0 0] : List Value).toArray 28)).trans (grown_below g8 (by simp) (fun k hk => by cases hk; exact Nat.le_refl _))
      have rR := rR.out
      have hB8 := below_and hB (Nat.le_refl _) b8
      obtain ⟨cR, hcR⟩ : ∃ c, c = wr.heap.size := ⟨_, rfl⟩
      rw [← hcR] at rR ⊢
      clear hrow0 g8 hrng hon
      clear hcR
      have hst : ys.drop n0 = A :: ys.drop (n0 + 1) := List.drop_eq_getElem_cons hnl ▸ by rw [(List.getElem?_eq_some_iff.1 hA).2]
      rw [hst] at hW
      have HW := (show Hid (_ = _) from hW)
      have hWu : allW b n last (A :: ys.drop (n0 + 1)) = (decide (last < A.2.1) && decide (A.1 = b) && rgtR n A && allW b n A.2.1 (ys.drop (n0 + 1))) := rfl
      have HWU := (show Hid (_ = _) from hWu)
      have hRt := rightC_any w8 [.int .i64 A.1.1, .int .i64 A.1.2, .int .i64 A.2.1, .int .i64 A.2.2.1, rd, rs, rp, rg] A n (mov_rep _ _ _ _ _ _ (⟨_, _, _, _, rfl, t1, t2, t3, t4⟩ : RRep Any w [.int .i64 A.1.1, .int .i64 A.1.2, .int .i64 A.2.1, .int .i64 A.2.2.1, rd, rs, rp, rg] A) hB8.size (Mv.below hB8)) (hq A (List.mem_of_getElem? hA)) (hT.below hB8)
      have HRt := (show Hid (Calls Tryz.prog 8 #[.agg #[.int .i64 A.1.1, .int .i64 A.1.2, .int .i64 A.2.1, .int .i64 A.2.2.1, rd, rs, rp, rg], .int .i64 n] w8 fun e w' => e = .returned (.bool (rgtR n A)) ∧ Below w8.heap.size w8 w') from hRt)
      have hNe : ∀ u, (binOp .neq 23 (.agg #[.int .i64 A.1.1, .int .i64 A.1.2]) (.agg #[.int .i64 b.1, .int .i64 b.2])).run Tryz.prog u = .ok (.bool (!decide (A.1 = b))) u := fun u => by
        have e : (A.1.1 == b.1 && A.1.2 == b.2) = decide (A.1 = b) := by
          rw [Bool.eq_iff_iff]
          simp only [Bool.and_eq_true, beq_iff_eq, decide_eq_true_eq]
          constructor
          · rintro ⟨h1, h2⟩; exact Prod.ext h1 h2
          · rintro rfl; exact ⟨rfl, rfl⟩
        rw [balNe, e]
      have hB18 := below_and hB1 (Nat.le_refl _) b8
      have r8 := r1.below hB18
      have c2 := rR.cell (j := 2) rfl
      clear hst hA hW hWu hRt t1 t2 t3 t4 hB hB1 b8
      by_cases h1 : A.2.1 ≤ last
      case pos =>
        have d1 : decide (A.2.1 ≤ last) = true := by simpa using h1
        go_wp2_with fail
        go_ret
        exact ⟨by rw [HW.out, HWU.out, show decide (last < A.2.1) = false by simp; omega]; simp, hB8⟩
      have d1 : decide (A.2.1 ≤ last) = false := by simpa using h1
      have dl : decide (last < A.2.1) = true := by simp; omega
      generalize hbb : decide (A.1 = b) = bb at *
      clear hbb
      cases bb with
      | false =>
        go_wp2_with (first
        | (refine wl_part_w (by rfl) _ _ rfl cR 0 rfl _ _ rR [.int .i64 A.1.1, .int .i64 A.1.2] rfl _ Tryz.underlying23 rfl (by kernel_rfl) ?_)
        | (refine wl_part_w (by rfl) _ _ rfl w.heap.size 0 rfl _ _ r8 [.int .i64 b.1, .int .i64 b.2] rfl _ Tryz.underlying23 rfl (by kernel_rfl) ?_))
        go_ret
        exact ⟨by rw [HW.out, HWU.out]; simp, hB8⟩
      | true =>
        cases hr : rgtR n A with
        | false =>
          rw [hr] at HRt
          go_wp2_with (first
        | (refine wl_part_w (by rfl) _ _ rfl cR 0 rfl _ _ rR [.int .i64 A.1.1, .int .i64 A.1.2] rfl _ Tryz.underlying23 rfl (by kernel_rfl) ?_)
        | (refine wl_part_w (by rfl) _ _ rfl w.heap.size 0 rfl _ _ r8 [.int .i64 b.1, .int .i64 b.2] rfl _ Tryz.underlying23 rfl (by kernel_rfl) ?_)
            | (refine wl_load_w (by rfl) _ _ rfl cR rfl _ _ rR _ Tryz.underlying28 rfl (by kernel_rfl) ?_)
            | (go_at_call 8; refine HRt.out.mono ?_; rintro e wx ⟨rfl, bx⟩))
          go_ret
          exact ⟨by rw [HW.out, HWU.out, hr]; simp, below_and hB8 (Nat.le_refl _) bx⟩
        | true =>
          rw [hr] at HRt
          go_wp2_with (first
        | (refine wl_part_w (by rfl) _ _ rfl cR 0 rfl _ _ rR [.int .i64 A.1.1, .int .i64 A.1.2] rfl _ Tryz.underlying23 rfl (by kernel_rfl) ?_)
        | (refine wl_part_w (by rfl) _ _ rfl w.heap.size 0 rfl _ _ r8 [.int .i64 b.1, .int .i64 b.2] rfl _ Tryz.underlying23 rfl (by kernel_rfl) ?_)
            | (refine wl_load_w (by rfl) _ _ rfl cR rfl _ _ rR _ Tryz.underlying28 rfl (by kernel_rfl) ?_)
            | (go_at_call 8; refine HRt.out.mono ?_; rintro e wx ⟨rfl, bx⟩; have cx2 := (rR.below bx).cell (j := 2) rfl))
          go_roundw
          case rel => exact ⟨n0 + 1, A.2.1, by omega, by go_num, rfl, by rw [HW.out, HWU.out, hr, dl]; rfl, below_and hB8 (Nat.le_refl _) bx, below_and hB18 (Nat.le_refl _) bx⟩
          case measure => simp [intOf]; omega
end
end Go.Proofs.YtgbfmccecnfooaaGreatDoor
