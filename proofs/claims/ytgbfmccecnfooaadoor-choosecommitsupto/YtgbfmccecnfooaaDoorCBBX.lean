/- catenarylaw18.ChooseCommits: its walk. Written by mk20v.py. -/
import Derived.Test.YtgbfmccecnfooaaDoorCBBW
import Derived.Test.YtgbfmccecnfooaaDoorCBAM
import Derived.Test.YtgbfmccecnfooaaDoorCBBU
set_option linter.unusedSimpArgs false
set_option linter.unusedVariables false
namespace Go.Proofs.YtgbfmccecnfooaaDoor
section
open Go.RowKit Oct Bal
set_option maxRecDepth 10000 in
set_option maxHeartbeats 4000000 in
theorem isStabC_any (w : World) (r : List Value) (x : PRep) (n : Int) (h : RRep Any w r x) (hT : Tab w) :
    Calls Tryd.prog 28 #[.agg r.toArray, .int .i64 n] w fun e w' => e = .returned (.bool (stabL n x)) ∧ Below w.heap.size w w' := by
  obtain ⟨rd, rs, rp, rg, rfl, t1, t2, t3, t4⟩ := h
  obtain ⟨ad, cd, rfl, _⟩ := t1.form
  obtain ⟨av, cv, rfl, _⟩ := t2.form
  obtain ⟨ap, cp, rfl, _⟩ := t3.form
  obtain ⟨w1, hw1⟩ : ∃ u, u = w.alloc (.cells #[.int .i64 x.1.1, .int .i64 x.1.2, .int .i64 x.2.1, .int .i64 x.2.2.1, .slice ad x.2.2.2.1.length cd, .slice av x.2.2.2.2.1.length cv, .slice ap x.2.2.2.2.2.1.length cp, rg] 30) := ⟨_, rfl⟩
  have r1 : Row w1 w.heap.size 30 [.int .i64 x.1.1, .int .i64 x.1.2, .int .i64 x.2.1, .int .i64 x.2.2.1, .slice ad x.2.2.2.1.length cd, .slice av x.2.2.2.2.1.length cv, .slice ap x.2.2.2.2.2.1.length cp, rg] := by rw [hw1]; exact Row.new _ _ _
  have b1 : Below w.heap.size w w1 := by rw [hw1]; exact below_alloc _ _
  have HCE := (show Hid (x.2.2.2.1.length = 32 → Calls Tryd.prog 43 #[.int .i64 10, .agg #[.int .i64 0, .int .i64 0], .int .i64 x.2.2.1, .slice ad x.2.2.2.1.length cd, .slice av x.2.2.2.2.1.length cv, .int .i64 n] w1 fun e w' => e = .returned (.bool (certL (rightV 10 0 0 x.2.2.1 x.2.2.2.1) n x.2.2.2.2.1)) ∧ Below w1.heap.size w1 w') from fun h32 => vCert_any w1 10 0 0 x.2.2.1 _ _ n _ _ (t1.mv (Mv.below b1)).1 (by omega) (t2.mv mov_vote b1.size (Mv.below b1)) (hT.below b1))
  have k3 := r1.cell (j := 3) rfl
  have k4 := r1.cell (j := 4) rfl
  have k5 := r1.cell (j := 5) rfl
  have hbz : ∀ u, (Instr.build 23 #[]).run Tryd.prog u = .ok (.agg #[.int .i64 0, .int .i64 0]) u := fun u => by kernel_rfl
  unfold stabL
  clear t1 t2 t3 t4 r1 hT
  generalize certL (rightV 10 0 0 x.2.2.1 x.2.2.2.1) n x.2.2.2.2.1 = cv0 at *
  generalize x.2.2.2.1.length = dl at *
  generalize x.2.2.2.2.1.length = vl at *
  generalize x.2.2.1 = low at *
  by_cases h0 : low = 0
  · subst h0
    rw [if_pos rfl]
    by_cases hd : dl = 0
    · subst hd
      have d2 : ((vl : Int) == 0) = decide (vl = 0) := by rw [Bool.eq_iff_iff]; simp
      go_enter Tryd.func28, Tryd.ntmps28
      go_upto_region 1 with fail
      rw [← hw1]
      clear hw1
      go_wp2_with fail
      go_ret
      exact ⟨by simp [d2], b1⟩
    · have d1 : ((dl : Int) == 0) = false := by simp; omega
      go_enter Tryd.func28, Tryd.ntmps28
      go_upto_region 1 with fail
      rw [← hw1]
      clear hw1
      go_wp2_with fail
      go_ret
      exact ⟨by simp [hd], b1⟩
  have d0 : (low == 0) = false := by simpa using h0
  rw [if_neg h0]
  by_cases h4 : 4 ≤ low
  case neg =>
    have d1 : decide (4 ≤ low) = false := by simpa using h4
    go_enter Tryd.func28, Tryd.ntmps28
    go_upto_region 1 with fail
    rw [← hw1]
    clear hw1
    go_wp2_with fail
    go_ret
    exact ⟨by simp [d1], b1⟩
  have d1 : decide (4 ≤ low) = true := by simpa using h4
  by_cases hM : low ≤ 1000000
  case neg =>
    have d2 : decide (low ≤ 1000000) = false := by simpa using hM
    go_enter Tryd.func28, Tryd.ntmps28
    go_upto_region 1 with fail
    rw [← hw1]
    clear hw1
    go_wp2_with fail
    go_ret
    exact ⟨by simp [d2], b1⟩
  have d2 : decide (low ≤ 1000000) = true := by simpa using hM
  have htm : Int.tmod low 4 = low % 4 := Int.tmod_eq_emod_of_nonneg (by omega)
  have hwr : wrap64 (low % 4) = low % 4 := IntWalk.wrap64_in _ ⟨by omega, by omega⟩
  rw [htm]
  by_cases hr : low % 4 = 0
  case neg =>
    have d3 : (low % 4 == 0) = false := by simpa using hr
    go_enter Tryd.func28, Tryd.ntmps28
    go_upto_region 1 with fail
    rw [← hw1]
    clear hw1
    go_wp2_with fail
    go_ret
    exact ⟨by simp [hr], b1⟩
  have d3 : (low % 4 == 0) = true := by simpa using hr
  by_cases hl : dl = 32
  case neg =>
    have d4 : ((dl : Int) == 32) = false := by simp; omega
    go_enter Tryd.func28, Tryd.ntmps28
    go_upto_region 1 with fail
    rw [← hw1]
    clear hw1
    go_wp2_with fail
    go_ret
    exact ⟨by simp [hl], b1⟩
  subst hl
  have hce := HCE.out rfl
  go_enter Tryd.func28, Tryd.ntmps28
  go_upto_region 1 with fail
  rw [← hw1]
  clear hw1
  go_wp2_with (go_at_call 43; refine hce.mono ?_; rintro e w2 ⟨rfl, b2⟩)
  go_ret
  exact ⟨by simp [d1, d2, hr], below_and b1 (Nat.le_refl _) b2⟩
set_option maxRecDepth 10000 in
set_option maxHeartbeats 8000000 in
theorem arePrepC_any (w : World) (r : List Value) (x : PRep) (n : Int) (h : RRep Any w r x) (hq : okQ x) (hlow : 0 ≤ x.2.2.1 ∧ x.2.2.1 ≤ 1000000) (hT : Tab w) :
    Calls Tryd.prog 29 #[.agg r.toArray, .int .i64 n] w fun e w' => e = .returned (.bool (prepsW x.1 n x.2.2.1 x.2.2.1 x.2.2.2.2.2.1)) ∧ Below w.heap.size w w' := by
  obtain ⟨rd, rs, rp, rg, rfl, t1, t2, t3, t4⟩ := h
  obtain ⟨ap, cp, rfl, _⟩ := t3.form
  obtain ⟨w1, hw1⟩ : ∃ u, u = w.alloc (.cells #[.int .i64 x.1.1, .int .i64 x.1.2, .int .i64 x.2.1, .int .i64 x.2.2.1, rd, rs, .slice ap x.2.2.2.2.2.1.length cp, rg] 30) := ⟨_, rfl⟩
  have r1 : Row w1 w.heap.size 30 [.int .i64 x.1.1, .int .i64 x.1.2, .int .i64 x.2.1, .int .i64 x.2.2.1, rd, rs, .slice ap x.2.2.2.2.2.1.length cp, rg] := by rw [hw1]; exact Row.new _ _ _
  have b1 : Below w.heap.size w w1 := by rw [hw1]; exact below_alloc _ _
  have hlp : (x.2.2.2.2.2.1.length : Int) ≤ 9223372036854775807 := by
    by_cases h0 : 0 < x.2.2.2.2.2.1.length
    · obtain ⟨_, _, _, _, h1, h2, _⟩ := t3.at h0
      unfold maxLen at h2
      omega
    · omega
  have HT := (show Hid (RL RPrep 8 Any w (.slice ap x.2.2.2.2.2.1.length cp) x.2.2.2.2.2.1) from t3)
  have HTB := (show Hid (Tab w) from hT)
  have HQ := (show Hid (okQ x) from hq)
  have k3 := r1.cell (j := 3) rfl
  have k6 := r1.cell (j := 6) rfl
  unfold okQ at HQ
  generalize x.2.2.2.2.2.1 = PS at *
  generalize x.2.2.1 = low at *
  have hwr : wrap64 (low + 16) = low + 16 := IntWalk.wrap64_in _ ⟨by omega, by omega⟩
  clear t1 t2 t3 t4 hT hq
  go_enter Tryd.func29, Tryd.ntmps29
  go_upto_region 1 with fail
  rw [← hw1]
  clear hw1
  go_wp2_with fail
  go_loopw [5, 13] (fun s5 j wr => ∃ (i : Nat) (last : Int), i ≤ PS.length ∧ j = .int .i64 i ∧ s5 = .int .i64 last ∧ prepsW x.1 n low low PS = prepsW x.1 n low last (PS.drop i) ∧ Below w.heap.size w wr ∧ Below w1.heap.size w1 wr) (fun _ j _ => PS.length - (intOf j).toNat)
  case atStart => exact ⟨0, low, by omega, rfl, rfl, rfl, b1, Below.refl _ _⟩
  case round =>
    obtain ⟨i, last, hi, rfl, rfl, hW, hB, hB1⟩ := hrel
    by_cases hil : i < PS.length
    case neg =>
      rw [List.drop_of_length_le (by omega)] at hW
      have HW := (show Hid (_ = _) from hW)
      clear hW
      go_wp2_with fail
      go_ret
      exact ⟨by rw [HW.out]; rfl, hB⟩
    obtain ⟨P, hP⟩ : ∃ P, PS[i]? = some P := ⟨_, List.getElem?_eq_getElem hil⟩
    obtain ⟨bw, offp, capp, hve, _, _, _, hbw, hat⟩ := (HT.out).at (by omega)
    obtain ⟨rww, _, hrnp, po, ps, pc, rfl, u1, u2, u3⟩ := hat i _ hP
    injection hve with hv1 hv2 hv3
    subst hv1 hv3
    clear hv2 hat
    have hrnp := rangeAt_block hrnp (hB.block bw hbw)
    have hrow0 := Row.new wr 38 [.int .i64 0, .int .i64 0, .int .i64 0, .int .i64 0, .int .i64 0, .slice none 0 0, .slice none 0 0, .slice none 0 0]
    have hon := one_RPrep (G := Any) (w := w) (x := P) ⟨po, ps, pc, rfl, u1, u2, u3⟩
    go_upto_region 5 with (first
      | (refine wpList_load_mid rfl _ _ rfl bw (offp + i * 8) rfl [.int .i64 P.1, .int .i64 P.2.1.1, .int .i64 P.2.1.2, .int .i64 P.2.2.1.1, .int .i64 P.2.2.1.2.1, po, ps, pc] _ hrnp Tryd.underlying38 rfl (by kernel_rfl) ?_)
      | (refine wl_store rfl _ _ _ rfl wr.heap.size [.int .i64 P.1, .int .i64 P.2.1.1, .int .i64 P.2.1.2, .int .i64 P.2.2.1.1, .int .i64 P.2.2.1.2.1, po, ps, pc] rfl rfl _ _ hrow0 rfl (by kernel_rfl) hon ?_; intro w9 rP g9))
    have b9 : Below wr.heap.size wr w9 := (below_alloc wr (.cells ([.int .i64 0, .int .i64 0, .int .i64 0, .int .i64 0, .int .i64 0, .slice none 0 0, .slice none 0 0, .slice none 0 0] : List Value).toArray 38)).trans (grown_below g9 (by simp) (fun k hk => by cases hk; exact Nat.le_refl _))
    have rP := rP.out
    have hB9 := below_and hB (Nat.le_refl _) b9
    obtain ⟨cP, hcP⟩ : ∃ c, c = wr.heap.size := ⟨_, rfl⟩
    rw [← hcP] at rP ⊢
    clear hrow0 g9 hrnp hon
    clear hcP
    have r9 := (r1.below hB1).below b9
    have c3 := r9.cell (j := 3) rfl
    have c0 := rP.cell (j := 0) rfl
    have hst : PS.drop i = P :: PS.drop (i + 1) := List.drop_eq_getElem_cons hil ▸ by rw [(List.getElem?_eq_some_iff.1 hP).2]
    rw [hst] at hW
    have HW := (show Hid (_ = _) from hW)
    have hIP := isPrepC_any w9 [.int .i64 P.1, .int .i64 P.2.1.1, .int .i64 P.2.1.2, .int .i64 P.2.2.1.1, .int .i64 P.2.2.1.2.1, po, ps, pc] P x.1 n (mov_prep _ _ _ _ _ _ (⟨_, _, _, rfl, u1, u2, u3⟩ : RPrep Any w [.int .i64 P.1, .int .i64 P.2.1.1, .int .i64 P.2.1.2, .int .i64 P.2.2.1.1, .int .i64 P.2.2.1.2.1, po, ps, pc] P) hB9.size (Mv.below hB9)) (HQ.out P (List.mem_of_getElem? hP)) (HTB.out.below hB9)
    have hB19 := below_and hB1 (Nat.le_refl _) b9
    clear hst hP u1 u2 u3 hW hB hB1 b9
    have hWu : prepsW x.1 n low last (P :: PS.drop (i + 1)) = (decide (last < P.1) && decide (P.1 ≤ low + 16) && prepdL x.1 n P && prepsW x.1 n low P.1 (PS.drop (i + 1))) := rfl
    have HWU := (show Hid (_ = _) from hWu)
    clear hWu
    by_cases h1 : P.1 ≤ last
    case pos =>
      have d1 : decide (P.1 ≤ last) = true := by simpa using h1
      go_wp2_with fail
      go_ret
      exact ⟨by rw [HW.out, HWU.out, show decide (last < P.1) = false by simp; omega]; rfl, hB9⟩
    have d1 : decide (P.1 ≤ last) = false := by simpa using h1
    by_cases h2 : low + 16 < P.1
    case pos =>
      have d2 : decide (low + 16 < P.1) = true := by simpa using h2
      go_wp2_with fail
      go_ret
      exact ⟨by rw [HW.out, HWU.out, show decide (P.1 ≤ low + 16) = false by simp; omega]; simp, hB9⟩
    have d2 : decide (low + 16 < P.1) = false := by simp; omega
    cases hp : prepdL x.1 n P with
    | false =>
      rw [hp] at hIP
      go_wp2_with (first
        | (refine wl_load_w (by rfl) _ _ rfl cP rfl _ _ rP _ Tryd.underlying38 rfl (by kernel_rfl) ?_)
        | (refine wl_part_w (by rfl) _ _ rfl w.heap.size 0 rfl _ _ r9 [.int .i64 x.1.1, .int .i64 x.1.2] rfl _ Tryd.underlying23 rfl (by kernel_rfl) ?_)
        | (go_at_call 44; refine hIP.mono ?_; rintro e wx ⟨rfl, bx⟩))
      go_ret
      exact ⟨by rw [HW.out, HWU.out, hp]; simp, below_and hB9 (Nat.le_refl _) bx⟩
    | true =>
      rw [hp] at hIP
      go_wp2_with (first
        | (refine wl_load_w (by rfl) _ _ rfl cP rfl _ _ rP _ Tryd.underlying38 rfl (by kernel_rfl) ?_)
        | (refine wl_part_w (by rfl) _ _ rfl w.heap.size 0 rfl _ _ r9 [.int .i64 x.1.1, .int .i64 x.1.2] rfl _ Tryd.underlying23 rfl (by kernel_rfl) ?_)
        | (go_at_call 44; refine hIP.mono ?_; rintro e wx ⟨rfl, bx⟩; have cx0 := (rP.below bx).cell (j := 0) rfl))
      go_roundw
      case rel => exact ⟨i + 1, P.1, by omega, by go_num, rfl, by rw [HW.out, HWU.out, hp, show decide (last < P.1) = true by simp; omega, show decide (P.1 ≤ low + 16) = true by simp; omega]; rfl, below_and hB9 (Nat.le_refl _) bx, below_and hB19 (Nat.le_refl _) bx⟩
      case measure => simp [intOf]; omega
set_option maxRecDepth 10000 in
set_option maxHeartbeats 8000000 in
theorem rightC_any (w : World) (r : List Value) (x : PRep) (n : Int) (h : RRep Any w r x) (hq : okQ x) (hT : Tab w) :
    Calls Tryd.prog 18 #[.agg r.toArray, .int .i64 n] w fun e w' => e = .returned (.bool (rgtR n x)) ∧ Below w.heap.size w w' := by
  have hall := h
  obtain ⟨rd, rs, rp, rg, rfl, t1, t2, t3, t4⟩ := h
  obtain ⟨w1, hw1⟩ : ∃ u, u = w.alloc (.cells #[.int .i64 x.1.1, .int .i64 x.1.2, .int .i64 x.2.1, .int .i64 x.2.2.1, rd, rs, rp, rg] 30) := ⟨_, rfl⟩
  have r1 : Row w1 w.heap.size 30 [.int .i64 x.1.1, .int .i64 x.1.2, .int .i64 x.2.1, .int .i64 x.2.2.1, rd, rs, rp, rg] := by rw [hw1]; exact Row.new _ _ _
  have b1 : Below w.heap.size w w1 := by rw [hw1]; exact below_alloc _ _
  have hR1 := mov_rep _ _ _ _ _ _ hall b1.size (Mv.below b1)
  have hT1 := hT.below b1
  obtain ⟨w2, hw2⟩ : ∃ u, u = w1.alloc (.cells #[.int .i64 x.1.1, .int .i64 x.1.2, .int .i64 x.2.1, .int .i64 x.2.2.1, rd, rs, rp, rg] 30) := ⟨_, rfl⟩
  have b2 : Below w1.heap.size w1 w2 := by rw [hw2]; exact below_alloc _ _
  have p2 : Row w2 w1.heap.size 30 ([[.int .i64 x.1.1, .int .i64 x.1.2, .int .i64 x.2.1, .int .i64 x.2.2.1, rd, rs, rp, rg]] : List (List Value)).flatten := by rw [hw2]; exact Row.new _ _ _
  have hR2 := mov_rep _ _ _ _ _ _ hR1 b2.size (Mv.below b2)
  have hL : RL RRep 8 Any w2 (.slice (some ⟨w1.heap.size, 0, none⟩) 1 1) [x] := RL.row (rows := [[.int .i64 x.1.1, .int .i64 x.1.2, .int .i64 x.2.1, .int .i64 x.2.2.1, rd, rs, rp, rg]]) p2 (by simp) (show 0 < 1 by decide) (show 1 ≤ maxLen by decide) ⟨hR2, trivial⟩
  have hS : Calls Tryd.prog 27 #[.agg #[.int .i64 8, .int .i64 0, .int .i64 0, .int .i64 0, .int .i64 0, .int .i64 0, .int .i64 0, .int .i64 0, .int .i64 0, .int .i64 0, .slice none 0 0, .slice none 0 0, .int .i64 0, .int .i64 0, .slice none 0 0, .slice none 0 0, .slice none 0 0, .slice none 0 0, .slice none 0 0, .slice none 0 0, .slice none 0 0, .slice none 0 0, .slice (some ⟨w1.heap.size, 0, none⟩) 1 1], .int .i64 x.2.1] w2 fun e w' => e = .returned (.bool (seaQ (mR x) x.2.1)) ∧ Below w2.heap.size w2 w' := sealed_any w2 (mR x) (sR (.slice (some ⟨w1.heap.size, 0, none⟩) 1 1)) x.2.1 (sR_ok hL) (hT1.below b2)
  have r2 := r1.below b2
  have B2 := below_and b1 (Nat.le_refl _) b2
  have HST := (show Hid (∀ u, Below w2.heap.size w2 u → Calls Tryd.prog 28 #[.agg #[.int .i64 x.1.1, .int .i64 x.1.2, .int .i64 x.2.1, .int .i64 x.2.2.1, rd, rs, rp, rg], .int .i64 n] u fun e w' => e = .returned (.bool (stabL n x)) ∧ Below u.heap.size u w') from fun u hu => isStabC_any u _ x n (mov_rep _ _ _ _ _ _ hR2 hu.size (Mv.below hu)) (hT.below (below_and B2 (Nat.le_refl _) hu)))
  have HPR := (show Hid (stabL n x = true → ∀ u, Below w2.heap.size w2 u → Calls Tryd.prog 29 #[.agg #[.int .i64 x.1.1, .int .i64 x.1.2, .int .i64 x.2.1, .int .i64 x.2.2.1, rd, rs, rp, rg], .int .i64 n] u fun e w' => e = .returned (.bool (prepsW x.1 n x.2.2.1 x.2.2.1 x.2.2.2.2.2.1)) ∧ Below u.heap.size u w') from fun hs u hu => arePrepC_any u _ x n (mov_rep _ _ _ _ _ _ hR2 hu.size (Mv.below hu)) hq (stab_low hs) (hT.below (below_and B2 (Nat.le_refl _) hu)))
  have HRI := (show Hid (Calls Tryd.prog 7 #[.int .i64 n] w1 fun e w' => e = .returned (.bool (rgt n)) ∧ w' = w1) from Bb.right_any w1 n)
  have k2 := r1.cell (j := 2) rfl
  have k22 := r2.cell (j := 2) rfl
  have HR2 := (show Hid (∀ u, Below w2.heap.size w2 u → Row u w.heap.size 30 [.int .i64 x.1.1, .int .i64 x.1.2, .int .i64 x.2.1, .int .i64 x.2.2.1, rd, rs, rp, rg]) from fun u hu => r2.below hu)
  clear t1 t2 t3 t4 hall hR1 hR2 hL hT hT1 p2 hq
  unfold rgtR
  generalize seaQ (mR x) x.2.1 = sq at *
  generalize rgt n = rr at *
  generalize stabL n x = st at *
  generalize prepsW x.1 n x.2.2.1 x.2.2.1 x.2.2.2.2.2.1 = pw at *
  generalize x.2.1 = rep at *
  have HWW := (show Hid (w1.alloc (.cells #[.int .i64 x.1.1, .int .i64 x.1.2, .int .i64 rep, .int .i64 x.2.2.1, rd, rs, rp, rg] 30) = w2) from hw2.symm)
  rw [← HWW.out] at k22
  clear hw2
  cases rr with
  | false =>
    go_enter Tryd.func18, Tryd.ntmps18
    go_upto_region 1 with fail
    rw [← hw1]
    clear hw1
    go_wp2_with (go_at_call 7; refine HRI.out.mono ?_; rintro e w' ⟨rfl, h'⟩; rw [h'])
    go_ret
    exact ⟨by simp, b1⟩
  | true =>
    by_cases h0 : 0 ≤ rep
    case neg =>
      have d0 : decide (0 ≤ rep) = false := by simpa using h0
      go_enter Tryd.func18, Tryd.ntmps18
      go_upto_region 1 with fail
      rw [← hw1]
      clear hw1
      go_wp2_with (go_at_call 7; refine HRI.out.mono ?_; rintro e w' ⟨rfl, h'⟩; rw [h'])
      go_ret
      exact ⟨by simp [d0], b1⟩
    have d0 : decide (0 ≤ rep) = true := by simpa using h0
    by_cases h1 : rep < n
    case neg =>
      have d1 : decide (rep < n) = false := by simpa using h1
      go_enter Tryd.func18, Tryd.ntmps18
      go_upto_region 1 with fail
      rw [← hw1]
      clear hw1
      go_wp2_with (go_at_call 7; refine HRI.out.mono ?_; rintro e w' ⟨rfl, h'⟩; rw [h'])
      go_ret
      exact ⟨by simp [d1], b1⟩
    have d1 : decide (rep < n) = true := by simpa using h1
    go_enter Tryd.func18, Tryd.ntmps18
    go_upto_region 1 with fail
    rw [← hw1]
    clear hw1
    cases sq with
    | false =>
      go_wp2_with (first
        | (go_at_call 7; refine HRI.out.mono ?_; rintro e w' ⟨rfl, h'⟩; rw [h'])
        | (refine wl_load_w (by rfl) _ _ rfl w.heap.size rfl _ _ r1 _ Tryd.underlying30 rfl (by kernel_rfl) ?_)
        | (go_at_call 27; rw [HWW.out]; refine hS.mono ?_; rintro e w3 ⟨rfl, b3⟩))
      go_ret
      exact ⟨by simp, below_and B2 (Nat.le_refl _) b3⟩
    | true =>
      cases st with
      | false =>
        go_wp2_with (first
          | (go_at_call 7; refine HRI.out.mono ?_; rintro e w' ⟨rfl, h'⟩; rw [h'])
          | (go_at_call 27; rw [HWW.out]; refine hS.mono ?_; rintro e w3 ⟨rfl, b3⟩; have r3 := HR2.out w3 b3)
          | (go_at_call 28; refine (HST.out w3 b3).mono ?_; rintro e w4 ⟨rfl, b4⟩)
          | (refine wl_load_w (by rfl) _ _ rfl w.heap.size rfl _ _ r3 _ Tryd.underlying30 rfl (by kernel_rfl) ?_)
          | (refine wl_load_w (by rfl) _ _ rfl w.heap.size rfl _ _ r1 _ Tryd.underlying30 rfl (by kernel_rfl) ?_))
        go_ret
        exact ⟨by simp, below_and B2 (Nat.le_refl _) (below_and b3 (Nat.le_refl _) b4)⟩
      | true =>
        go_wp2_with (first
          | (go_at_call 7; refine HRI.out.mono ?_; rintro e w' ⟨rfl, h'⟩; rw [h'])
          | (go_at_call 27; rw [HWW.out]; refine hS.mono ?_; rintro e w3 ⟨rfl, b3⟩; have r3 := HR2.out w3 b3)
          | (go_at_call 28; refine (HST.out w3 b3).mono ?_; rintro e w4 ⟨rfl, b4⟩; have B4 := below_and b3 (Nat.le_refl _) b4; have r4 := HR2.out w4 B4)
          | (go_at_call 29; refine (HPR.out (by trivial) w4 B4).mono ?_; rintro e w5 ⟨rfl, b5⟩)
          | (refine wl_load_w (by rfl) _ _ rfl w.heap.size rfl _ _ r4 _ Tryd.underlying30 rfl (by kernel_rfl) ?_)
          | (refine wl_load_w (by rfl) _ _ rfl w.heap.size rfl _ _ r3 _ Tryd.underlying30 rfl (by kernel_rfl) ?_)
          | (refine wl_load_w (by rfl) _ _ rfl w.heap.size rfl _ _ r1 _ Tryd.underlying30 rfl (by kernel_rfl) ?_))
        go_ret
        exact ⟨by simp [d0, d1], below_and B2 (Nat.le_refl _) (below_and B4 (Nat.le_refl _) b5)⟩
end
section
open Go.RowKit Oct Bal
/-- A quorum's reports, in the order of their replicas. -/
def allW (b : PBal) (n : Int) : Int → List PRep → Bool
  | _, [] => true
  | last, r :: rs => decide (last < r.2.1) && decide (r.1 = b) && rgtR n r && allW b n r.2.1 rs
def allL (b : PBal) (n : Int) (ys : List PRep) : Bool := rgt n && decide ((ys.length : Int) = quo n) && allW b n (-1) ys
set_option maxRecDepth 10000 in
set_option maxHeartbeats 8000000 in
theorem allC_any (w : World) (b : PBal) (v : Value) (ys : List PRep) (n : Int) (hvs : RL RRep 8 Any w v ys) (hq : ∀ r ∈ ys, okQ r) (hT : Tab w) :
    Calls Tryd.prog 9 #[.agg #[.int .i64 b.1, .int .i64 b.2], v, .int .i64 n] w fun e w' => e = .returned (.bool (allL b n ys)) ∧ Below w.heap.size w w' := by
  obtain ⟨aa, ca, rfl, _⟩ := hvs.form
  have hlv := len_rep hvs
  obtain ⟨w1, hw1⟩ : ∃ u, u = w.alloc (.cells #[.int .i64 b.1, .int .i64 b.2] 23) := ⟨_, rfl⟩
  have r1 : Row w1 w.heap.size 23 [.int .i64 b.1, .int .i64 b.2] := by rw [hw1]; exact Row.new _ _ _
  have b1 : Below w.heap.size w w1 := by rw [hw1]; exact below_alloc _ _
  have HBR := (show Hid (Calls Tryd.prog 7 #[.int .i64 n] w1 fun e w' => e = .returned (.bool (rgt n)) ∧ w' = w1) from Bb.right_any w1 n)
  have HBQ := (show Hid (Calls Tryd.prog 8 #[.int .i64 n] w1 fun e w' => e = .returned (.int .i64 (quo n)) ∧ w' = w1) from Bb.quorum_any w1 n)
  unfold allL
  cases hrr : rgt n with
  | false =>
    rw [hrr] at HBR
    clear hrr
    go_enter Tryd.func9, Tryd.ntmps9
    go_upto_region 1 with fail
    rw [← hw1]
    clear hw1
    go_wp2_with (go_at_call 7; refine HBR.out.mono ?_; rintro e w' ⟨rfl, h'⟩; rw [h'])
    go_ret
    exact ⟨by simp, b1⟩
  | true =>
    rw [hrr] at HBR
    clear hrr
    generalize quo n = q at *
    by_cases hq2 : (ys.length : Int) = q
    case neg =>
      have d1 : ((ys.length : Int) != q) = true := by simpa using hq2
      go_enter Tryd.func9, Tryd.ntmps9
      go_upto_region 1 with fail
      rw [← hw1]
      clear hw1
      go_wp2_with (first | (go_at_call 7; refine HBR.out.mono ?_; rintro e w' ⟨rfl, h'⟩; rw [h']) | (go_at_call 8; refine HBQ.out.mono ?_; rintro e w' ⟨rfl, h'⟩; rw [h']))
      go_ret
      exact ⟨by simp [hq2], b1⟩
    subst hq2
    have HN := (show Hid (ys.length = ys.length) from rfl)
    go_enter Tryd.func9, Tryd.ntmps9
    go_upto_region 1 with fail
    rw [← hw1]
    clear hw1
    go_wp2_with (first | (go_at_call 7; refine HBR.out.mono ?_; rintro e w' ⟨rfl, h'⟩; rw [h']) | (go_at_call 8; refine HBQ.out.mono ?_; rintro e w' ⟨rfl, h'⟩; rw [h']))
    clear HBR HBQ
    go_loopw [7, 22] (fun s7 j wr => ∃ (i : Nat) (last : Int), i ≤ ys.length ∧ j = .int .i64 i ∧ s7 = .int .i64 last ∧ allW b n (-1) ys = allW b n last (ys.drop i) ∧ Below w.heap.size w wr ∧ Below w1.heap.size w1 wr) (fun _ j _ => ys.length - (intOf j).toNat)
    case atStart => exact ⟨0, -1, by omega, rfl, rfl, rfl, b1, Below.refl _ _⟩
    case round =>
      obtain ⟨n0, last, hi, rfl, rfl, hW, hB, hB1⟩ := hrel
      by_cases hnl : n0 < ys.length
      case neg =>
        rw [List.drop_of_length_le (by omega)] at hW
        have HW := (show Hid (_ = _) from hW)
        clear hW
        go_wp2_with fail
        go_ret
        exact ⟨by rw [HW.out]; simp [allW], hB⟩
      obtain ⟨A, hA⟩ : ∃ A, ys[n0]? = some A := ⟨_, List.getElem?_eq_getElem hnl⟩
      obtain ⟨bv, off, cap, hve, _, _, _, hbv, hat⟩ := hvs.at (by omega)
      obtain ⟨rvv, _, hrng, rd, rs, rp, rg, rfl, t1, t2, t3, t4⟩ := hat n0 _ hA
      injection hve with hv1 hv2 hv3
      subst hv1 hv3
      clear hv2 hat
      have hrng := rangeAt_block hrng (hB.block bv hbv)
      have hrow0 := Row.new wr 30 [.int .i64 0, .int .i64 0, .int .i64 0, .int .i64 0, .slice none 0 0, .slice none 0 0, .slice none 0 0, .slice none 0 0]
      have hon := one_RRep (G := Any) (w := w) (x := A) ⟨rd, rs, rp, rg, rfl, t1, t2, t3, t4⟩
      go_upto_region 7 with (first
        | (refine wpList_load_mid rfl _ _ rfl bv (off + n0 * 8) rfl [.int .i64 A.1.1, .int .i64 A.1.2, .int .i64 A.2.1, .int .i64 A.2.2.1, rd, rs, rp, rg] _ hrng Tryd.underlying30 rfl (by kernel_rfl) ?_)
        | (refine wl_store rfl _ _ _ rfl wr.heap.size [.int .i64 A.1.1, .int .i64 A.1.2, .int .i64 A.2.1, .int .i64 A.2.2.1, rd, rs, rp, rg] rfl rfl _ _ hrow0 rfl (by kernel_rfl) hon ?_; intro w8 rR g8))
      have b8 : Below wr.heap.size wr w8 := (below_alloc wr (.cells ([.int .i64 0, .int .i64 0, .int .i64 0, .int .i64 0, .slice none 0 0, .slice none 0 0, .slice none 0 0, .slice none 0 0] : List Value).toArray 30)).trans (grown_below g8 (by simp) (fun k hk => by cases hk; exact Nat.le_refl _))
      have rR := rR.out
      have hB8 := below_and hB (Nat.le_refl _) b8
      obtain ⟨cR, hcR⟩ : ∃ c, c = wr.heap.size := ⟨_, rfl⟩
      rw [← hcR] at rR ⊢
      clear hrow0 g8 hrng hon
      clear hcR
      have hst : ys.drop n0 = A :: ys.drop (n0 + 1) := List.drop_eq_getElem_cons hnl ▸ by rw [(List.getElem?_eq_some_iff.1 hA).2]
      rw [hst] at hW
      have HW := (show Hid (_ = _) from hW)
      have hWu : allW b n last (A :: ys.drop (n0 + 1)) = (decide (last < A.2.1) && decide (A.1 = b) && rgtR n A && allW b n A.2.1 (ys.drop (n0 + 1))) := rfl
      have HWU := (show Hid (_ = _) from hWu)
      have hRt := rightC_any w8 [.int .i64 A.1.1, .int .i64 A.1.2, .int .i64 A.2.1, .int .i64 A.2.2.1, rd, rs, rp, rg] A n (mov_rep _ _ _ _ _ _ (⟨_, _, _, _, rfl, t1, t2, t3, t4⟩ : RRep Any w [.int .i64 A.1.1, .int .i64 A.1.2, .int .i64 A.2.1, .int .i64 A.2.2.1, rd, rs, rp, rg] A) hB8.size (Mv.below hB8)) (hq A (List.mem_of_getElem? hA)) (hT.below hB8)
      have HRt := (show Hid (Calls Tryd.prog 18 #[.agg #[.int .i64 A.1.1, .int .i64 A.1.2, .int .i64 A.2.1, .int .i64 A.2.2.1, rd, rs, rp, rg], .int .i64 n] w8 fun e w' => e = .returned (.bool (rgtR n A)) ∧ Below w8.heap.size w8 w') from hRt)
      have hNe : ∀ u, (binOp .neq 23 (.agg #[.int .i64 A.1.1, .int .i64 A.1.2]) (.agg #[.int .i64 b.1, .int .i64 b.2])).run Tryd.prog u = .ok (.bool (!decide (A.1 = b))) u := fun u => by
        have e : (A.1.1 == b.1 && A.1.2 == b.2) = decide (A.1 = b) := by
          rw [Bool.eq_iff_iff]
          simp only [Bool.and_eq_true, beq_iff_eq, decide_eq_true_eq]
          constructor
          · rintro ⟨h1, h2⟩; exact Prod.ext h1 h2
          · rintro rfl; exact ⟨rfl, rfl⟩
        rw [balNe, e]
      have hB18 := below_and hB1 (Nat.le_refl _) b8
      have r8 := r1.below hB18
      have c2 := rR.cell (j := 2) rfl
      clear hst hA hW hWu hRt t1 t2 t3 t4 hB hB1 b8
      by_cases h1 : A.2.1 ≤ last
      case pos =>
        have d1 : decide (A.2.1 ≤ last) = true := by simpa using h1
        go_wp2_with fail
        go_ret
        exact ⟨by rw [HW.out, HWU.out, show decide (last < A.2.1) = false by simp; omega]; simp, hB8⟩
      have d1 : decide (A.2.1 ≤ last) = false := by simpa using h1
      have dl : decide (last < A.2.1) = true := by simp; omega
      generalize hbb : decide (A.1 = b) = bb at *
      clear hbb
      cases bb with
      | false =>
        go_wp2_with (first
        | (refine wl_part_w (by rfl) _ _ rfl cR 0 rfl _ _ rR [.int .i64 A.1.1, .int .i64 A.1.2] rfl _ Tryd.underlying23 rfl (by kernel_rfl) ?_)
        | (refine wl_part_w (by rfl) _ _ rfl w.heap.size 0 rfl _ _ r8 [.int .i64 b.1, .int .i64 b.2] rfl _ Tryd.underlying23 rfl (by kernel_rfl) ?_))
        go_ret
        exact ⟨by rw [HW.out, HWU.out]; simp, hB8⟩
      | true =>
        cases hr : rgtR n A with
        | false =>
          rw [hr] at HRt
          go_wp2_with (first
        | (refine wl_part_w (by rfl) _ _ rfl cR 0 rfl _ _ rR [.int .i64 A.1.1, .int .i64 A.1.2] rfl _ Tryd.underlying23 rfl (by kernel_rfl) ?_)
        | (refine wl_part_w (by rfl) _ _ rfl w.heap.size 0 rfl _ _ r8 [.int .i64 b.1, .int .i64 b.2] rfl _ Tryd.underlying23 rfl (by kernel_rfl) ?_)
            | (refine wl_load_w (by rfl) _ _ rfl cR rfl _ _ rR _ Tryd.underlying30 rfl (by kernel_rfl) ?_)
            | (go_at_call 18; refine HRt.out.mono ?_; rintro e wx ⟨rfl, bx⟩))
          go_ret
          exact ⟨by rw [HW.out, HWU.out, hr]; simp, below_and hB8 (Nat.le_refl _) bx⟩
        | true =>
          rw [hr] at HRt
          go_wp2_with (first
        | (refine wl_part_w (by rfl) _ _ rfl cR 0 rfl _ _ rR [.int .i64 A.1.1, .int .i64 A.1.2] rfl _ Tryd.underlying23 rfl (by kernel_rfl) ?_)
        | (refine wl_part_w (by rfl) _ _ rfl w.heap.size 0 rfl _ _ r8 [.int .i64 b.1, .int .i64 b.2] rfl _ Tryd.underlying23 rfl (by kernel_rfl) ?_)
            | (refine wl_load_w (by rfl) _ _ rfl cR rfl _ _ rR _ Tryd.underlying30 rfl (by kernel_rfl) ?_)
            | (go_at_call 18; refine HRt.out.mono ?_; rintro e wx ⟨rfl, bx⟩; have cx2 := (rR.below bx).cell (j := 2) rfl))
          go_roundw
          case rel => exact ⟨n0 + 1, A.2.1, by omega, by go_num, rfl, by rw [HW.out, HWU.out, hr, dl]; rfl, below_and hB8 (Nat.le_refl _) bx, below_and hB18 (Nat.le_refl _) bx⟩
          case measure => simp [intOf]; omega
end
section
open Go.RowKit Oct Bal
theorem low_ge : ∀ {rs : List PRep} (m : Int) {r : PRep}, r ∈ rs → r.2.2.1 ≤ rs.foldl lowS m
  | a :: rs, m, r, h => by
    rcases List.mem_cons.1 h with rfl | h
    · have := low_le rs (lowS m r)
      have h2 : r.2.2.1 ≤ lowS m r := by unfold lowS; split <;> omega
      exact Int.le_trans h2 this
    · exact low_ge (rs := rs) (lowS m a) h
theorem low_mem {rs : List PRep} {r : PRep} (h : r ∈ rs) : r.2.2.1 ≤ lowR rs := low_ge 0 h
theorem hig_ge : ∀ {ps : List PPrep} (m : Int) {p : PPrep}, p ∈ ps → p.1 ≤ ps.foldl higS m
  | a :: ps, m, p, h => by
    rcases List.mem_cons.1 h with rfl | h
    · have := hig_le ps (higS m p)
      have h2 : p.1 ≤ higS m p := by unfold higS; split <;> omega
      exact Int.le_trans h2 this
    · exact hig_ge (ps := ps) (higS m a) h
theorem higs_le : ∀ (rs : List PRep) (m : Int), m ≤ rs.foldl (fun m r => r.2.2.2.2.2.1.foldl higS m) m
  | [], _ => Int.le_refl _
  | r :: rs, m => Int.le_trans (hig_le r.2.2.2.2.2.1 m) (higs_le rs _)
theorem higs_ge : ∀ {rs : List PRep} (m : Int) {r : PRep} {p : PPrep}, r ∈ rs → p ∈ r.2.2.2.2.2.1 → p.1 ≤ rs.foldl (fun m r => r.2.2.2.2.2.1.foldl higS m) m
  | a :: rs, m, r, p, h, hp => by
    rcases List.mem_cons.1 h with rfl | h
    · exact Int.le_trans (hig_ge m hp) (higs_le rs _)
    · exact higs_ge (rs := rs) (a.2.2.2.2.2.1.foldl higS m) h hp
theorem hig_mem {rs : List PRep} {r : PRep} {p : PPrep} (h : r ∈ rs) (hp : p ∈ r.2.2.2.2.2.1) : p.1 ≤ higR rs := higs_ge _ h hp
theorem prepsW_mem {b : PBal} {n low : Int} : ∀ {ps : List PPrep} {last : Int}, prepsW b n low last ps = true → ∀ p ∈ ps, p.1 ≤ low + 16
  | [], _, _, p, hp => by cases hp
  | a :: ps, last, h, p, hp => by
    simp only [prepsW, Bool.and_eq_true, decide_eq_true_eq] at h
    rcases List.mem_cons.1 hp with rfl | hp
    · exact h.1.1.2
    · exact prepsW_mem h.2 p hp
theorem allW_mem {b : PBal} {n : Int} : ∀ {rs : List PRep} {last : Int}, allW b n last rs = true → ∀ r ∈ rs, rgtR n r = true
  | [], _, _, r, hr => by cases hr
  | a :: rs, last, h, r, hr => by
    simp only [allW, Bool.and_eq_true, decide_eq_true_eq] at h
    rcases List.mem_cons.1 hr with rfl | hr
    · exact h.1.2
    · exact allW_mem h.2 r hr
theorem allL_slot {b : PBal} {n : Int} {rs : List PRep} (h : allL b n rs = true) {r : PRep} {p : PPrep} (hr : r ∈ rs) (hp : p ∈ r.2.2.2.2.2.1) : p.1 ≤ lowR rs + 16 := by
  simp only [allL, Bool.and_eq_true] at h
  have h1 := allW_mem h.2 r hr
  simp only [rgtR, Bool.and_eq_true] at h1
  have h2 := prepsW_mem h1.2 p hp
  have h3 := low_mem hr
  omega
/-- The highest that was found; at first none. -/
def hpr : PPrep := (-1, (0, 0), qz, [])
def hO (o : Option PPrep) : PPrep := match o with | none => hpr | some q => q
def HK (k : Int) (o : Option PPrep) (h : PPrep) : Prop := k ≠ -1 → h = hO o ∧ ∀ q, o = some q → q.1 = k
theorem HK.start (k : Int) : HK k none hpr := fun _ => ⟨rfl, fun q e => by cases e⟩
theorem HK.skip {k : Int} {o : Option PPrep} {h P : PPrep} (hk : HK k o h) (hp : P.1 ≠ k) : HK k (pkS k o P) h := by
  have e : pkS k o P = o := by unfold pkS; simp [hp]
  rw [e]
  exact hk
theorem HK.new {k : Int} {o : Option PPrep} {h P : PPrep} (hk : HK k o h) (hp : P.1 = k) (hc : h.1 = k → 0 < cmp2 P.2.1.1 P.2.1.2 h.2.1.1 h.2.1.2) : HK k (pkS k o P) P := fun hn => by
  obtain ⟨h1, h2⟩ := hk hn
  have e : pkS k o P = some P := by
    unfold pkS
    cases o with
    | none => simp [hp, bea]
    | some q =>
      have hq : h = q := h1
      subst hq
      have := hc (h2 h rfl)
      simp [hp, bea, this]
  rw [e]
  exact ⟨rfl, fun q hq => by cases hq; exact hp⟩
theorem HK.old {k : Int} {o : Option PPrep} {h P : PPrep} (hk : HK k o h) (hp : P.1 = k) (hh : h.1 = k) (hc : ¬ 0 < cmp2 P.2.1.1 P.2.1.2 h.2.1.1 h.2.1.2) : HK k (pkS k o P) h := fun hn => by
  obtain ⟨h1, h2⟩ := hk hn
  cases o with
  | none =>
    have e : h = hpr := h1
    rw [e] at hh
    exact absurd hh.symm hn
  | some q =>
    have hq : h = q := h1
    subst hq
    have e : pkS k (some h) P = some h := by unfold pkS; simp [bea, hc]
    rw [e]
    exact ⟨rfl, h2⟩
/-- At the end. -/
theorem HK.goes {b : PBal} {n k : Int} {rs : List PRep} {h : PPrep} (hk : HK k (pkR k rs) h) (hh : h.1 = k) (ha : allL b n rs = true) (hl : lowR rs < k) :
    ∃ m : Nat, k - lowR rs - 1 = (m : Int) ∧ m < cntR rs ∧ (picksR rs (cntR rs))[m]? = some h.2.2.1 := by
  have h0 := lowR_nn rs
  obtain ⟨h1, h2⟩ := hk (by omega)
  have hb := best_all k rs
  cases ho : pkR k rs with
  | none =>
    rw [ho] at h1
    have e : h = hpr := h1
    rw [e] at hh
    have : (-1 : Int) = k := hh
    omega
  | some q =>
    rw [ho] at h1 hb
    have hq : h = q := h1
    subst hq
    have hm : h ∈ allP rs := (show h ∈ allP rs ∧ h.1 = k ∧ _ from hb).1
    obtain ⟨r, hr, hp⟩ := List.mem_flatMap.1 hm
    have e1 := hig_mem hr hp
    have e2 := allL_slot ha hr hp
    refine ⟨(k - lowR rs - 1).toNat, by omega, by unfold cntR; omega, ?_⟩
    have hlt : (k - lowR rs - 1).toNat < cntR rs := by unfold cntR; omega
    unfold picksR
    rw [List.getElem?_map, List.getElem?_range hlt]
    have ek : lowR rs + 1 + (((k - lowR rs - 1).toNat : Nat) : Int) = k := by omega
    simp only [Option.map_some, ek, ho]
    rfl
end
section
open Go.RowKit Oct Bal
theorem Tryd.infRepC : (Tryd.prog.info? 30).map (fun i => (i.zero, i.size, i.bytes)) = some (some (.agg #[.int .i64 0, .int .i64 0, .int .i64 0, .int .i64 0, .slice none 0 0, .slice none 0 0, .slice none 0 0, .slice none 0 0]), 8, 128) := by kernel_rfl
set_option maxRecDepth 10000 in
set_option maxHeartbeats 16000000 in
theorem commitsL_any (W : World) (b : PBal) (vv : Value) (ys : List PRep) (k : Int) (hvs : RL RRep 8 Any W vv ys) (hz : szL 128 szR ys) (hq : ∀ r ∈ ys, okQ r) (hbd : ∀ r ∈ ys, bdR r) (hkb : i64C k) (hT : Tab W) :
    Calls Tryd.prog 3 #[.agg #[.int .i64 b.1, .int .i64 b.2], vv, .int .i64 k] W fun e w' => e = .returned (.bool true) ∧ Below W.heap.size W w' := by
  obtain ⟨aa, ca, rfl, _⟩ := hvs.form
  have hlv := len_rep hvs
  obtain ⟨w0, hw0⟩ : ∃ u, u = W.alloc (.cells #[.int .i64 b.1, .int .i64 b.2] 23) := ⟨_, rfl⟩
  have r0 : Row w0 W.heap.size 23 [.int .i64 b.1, .int .i64 b.2] := by rw [hw0]; exact Row.new _ _ _
  have BW0 : Below W.heap.size W w0 := by rw [hw0]; exact below_alloc _ _
  have hvs := hvs.mv mov_rep BW0.size (Mv.below BW0)
  have hT0 := hT.below BW0
  go_enter Tryd.func3, Tryd.ntmps3
  go_upto_region 1 with fail
  rw [← hw0]
  clear hw0
  go_upto_region 3 with (go_at_call 5; refine (chooseAlive_any w0).mono ?_; rintro e w1 ⟨rfl, b1⟩)
  have HR0 := (show Hid (Row w0 W.heap.size 23 [.int .i64 b.1, .int .i64 b.2]) from r0)
  clear r0 hT
  obtain ⟨w2, hw2⟩ : ∃ u, u = w1.alloc (.cells #[] 30) := ⟨_, rfl⟩
  have b2 : Below w1.heap.size w1 w2 := by rw [hw2]; exact below_alloc _ _
  have hL2 := LB.fresh RRep 30 8 w1.heap.size w1 (Nat.le_refl _)
  rw [← hw2] at hL2
  go_upto_region 4 with fail
  rw [← hw2]
  clear hw2
  have BW2 := below_and b1 (Nat.le_refl _) b2
  have hs1 := b1.size
  have hlen128 := hz.1
  have b2s := b2.size
  clear b1 b2
  go_wp2_with fail
  go_loopw [7, 26] (fun l j wr => ∃ n : Nat, n ≤ ys.length ∧ j = .int .i64 n ∧ LB RRep 30 8 w1.heap.size wr l (ys.take n) ∧ Below w0.heap.size w0 wr ∧ w1.heap.size ≤ wr.heap.size) (fun _ j _ => ys.length - (intOf j).toNat)
  case atStart => exact ⟨0, by omega, rfl, hL2, BW2, b2s⟩
  case round =>
    clear hL2 BW2
    obtain ⟨n, hn, rfl, hL, hB, hsz⟩ := hrel
    obtain ⟨PL, hPL⟩ : ∃ PL, PL = ys.take n := ⟨_, rfl⟩
    have hln : PL.length = n := by rw [hPL, List.length_take]; omega
    rw [← hPL] at hL
    have HPL := (show Hid (PL = ys.take n ∧ PL.length = n) from ⟨hPL, hln⟩)
    clear hPL hln
    obtain ⟨la, lc, rfl⟩ := hL.fmC
    by_cases hnl : n < ys.length
    case pos =>
      obtain ⟨A, hA⟩ : ∃ A, ys[n]? = some A := ⟨_, List.getElem?_eq_getElem hnl⟩
      obtain ⟨bv, off, cap, hve, _, _, _, hbv, hat⟩ := hvs.at (by omega)
      obtain ⟨rvv, _, hrng, rd, rs, rp, rg, rfl, t1, t2, t3, t4⟩ := hat n _ hA
      injection hve with hv1 hv2 hv3
      subst hv1 hv3
      clear hv2 hat
      have hrng := rangeAt_block hrng (hB.block bv hbv)
      have hrow0 := Row.new wr 30 [.int .i64 0, .int .i64 0, .int .i64 0, .int .i64 0, .slice none 0 0, .slice none 0 0, .slice none 0 0, .slice none 0 0]
      have hon := one_RRep (G := Any) (w := w0) (x := A) ⟨rd, rs, rp, rg, rfl, t1, t2, t3, t4⟩
      go_upto_region 7 with (first
        | (refine wpList_load_mid rfl _ _ rfl bv (off + n * 8) rfl [.int .i64 A.1.1, .int .i64 A.1.2, .int .i64 A.2.1, .int .i64 A.2.2.1, rd, rs, rp, rg] _ hrng Tryd.underlying30 rfl (by kernel_rfl) ?_)
        | (refine wl_store rfl _ _ _ rfl wr.heap.size [.int .i64 A.1.1, .int .i64 A.1.2, .int .i64 A.2.1, .int .i64 A.2.2.1, rd, rs, rp, rg] rfl rfl _ _ hrow0 rfl (by kernel_rfl) hon ?_; intro w8 rR g8))
      have b8 : Below wr.heap.size wr w8 := (below_alloc wr (.cells ([.int .i64 0, .int .i64 0, .int .i64 0, .int .i64 0, .slice none 0 0, .slice none 0 0, .slice none 0 0, .slice none 0 0] : List Value).toArray 30)).trans (grown_below g8 (by simp) (fun k hk => by cases hk; exact Nat.le_refl _))
      have rR := rR.out
      have hB8 := below_and hB (Nat.le_refl _) b8
      obtain ⟨cR, hcR⟩ : ∃ c, c = wr.heap.size := ⟨_, rfl⟩
      rw [← hcR] at rR ⊢
      clear hrow0 g8 hrng hon
      clear hcR
      have hcp := copyReport_any w8 [.int .i64 A.1.1, .int .i64 A.1.2, .int .i64 A.2.1, .int .i64 A.2.2.1, rd, rs, rp, rg] A ⟨_, _, _, _, rfl, t1.mv (Mv.below hB8), t2.mv mov_vote hB8.size (Mv.below hB8), t3.mv mov_prep hB8.size (Mv.below hB8), t4.mv (Mv.below hB8)⟩ (hz.2 A (List.mem_of_getElem? hA))
      have hst : ys.take (n + 1) = PL ++ [A] := by rw [List.take_add_one, hA, HPL.out.1]; rfl
      have HST := (show Hid (_ = _) from hst)
      have hL8 := hL.below mov_rep b8
      have hLlt := hL8.lt
      have h8s : w1.heap.size ≤ w8.heap.size := Nat.le_trans hsz b8.size
      clear hst hA b8 hL t1 t2 t3 t4 hB
      go_wp2_with (first
        | (refine wl_load rfl _ _ rfl cR rfl _ _ rR _ Tryd.underlying30 rfl (by kernel_rfl) ?_)
        | (go_at_call 6; refine hcp.mono ?_; rintro e w9 ⟨r9, rfl, hr9, b9⟩; have hL9 := hL8.below mov_rep b9; have h9s := b9.size; have hone := one_RRep hr9; obtain ⟨xd, xs, xp, xg, rfl, f1, f2, f3, f4⟩ := hr9)
        | (at_builtin; go_loud (refine wl_pushS mov_rep rfl _ _ _ rfl 30 8 128 _ Tryd.underlying24 Tryd.infRepC rfl (by decide) w1.heap.size (.slice la PL.length lc) PL rfl hL9 [.int .i64 A.1.1, .int .i64 A.1.2, .int .i64 A.2.1, .int .i64 A.2.2.1, xd, xs, xp, xg] A w8.heap.size ⟨_, _, _, _, rfl, f1, f2, f3, f4⟩ rfl hone h8s hLlt rfl (Nat.le_trans h8s h9s) (by have := HPL.out.2; omega) (by decide) ?_; intro v7 w7 hL7 g7 hS7)))
      have hBx := below_and hB8 (Nat.le_refl _) b9
      have hB7 := hBx.trans (grown_below g7 hBx.size (fun q hq => by have := hL9.fr q hq; omega))
      go_roundw
      case rel => exact ⟨n + 1, by omega, by go_num, by rw [HST.out]; exact hL7, hB7, Nat.le_trans (Nat.le_trans h8s h9s) g7.size⟩
      case measure => simp [intOf]; omega
    have hPe : PL = ys := by rw [HPL.out.1]; exact List.take_of_length_le (by omega)
    subst hPe
    clear HPL
    obtain ⟨w5, hw5⟩ : ∃ u : World, u = wr := ⟨_, rfl⟩
    subst hw5
    have hOw : RL RRep 8 Any w5 (.slice la PL.length lc) PL := (hL.rl mov_rep).mv mov_rep (Nat.le_refl _) Mv.any
    have hLy := hvs.mv mov_rep hB.size (Mv.below hB)
    have hT5 := hT0.below hB
    have hszp : ∀ r ∈ PL, ∀ p ∈ r.2.2.2.2.2.1, szQ p.2.2.1 := fun r hr p hp => ((hz.2 r hr).2.2.1.2 p hp).1
    have HCB := (show Hid (∀ u, Below w5.heap.size w5 u → Row u W.heap.size 23 [.int .i64 b.1, .int .i64 b.2]) from fun u hu => (HR0.out.below hB).below hu)
    have HA1 := (show Hid (∀ u (nn : Int), Below w5.heap.size w5 u → Calls Tryd.prog 9 #[.agg #[.int .i64 b.1, .int .i64 b.2], .slice la PL.length lc, .int .i64 nn] u fun e w' => e = .returned (.bool (allL b nn PL)) ∧ Below u.heap.size u w') from fun u nn hu => allC_any u b _ PL nn (hOw.mv mov_rep hu.size (Mv.below hu)) hq (hT5.below hu))
    have HLO := (show Hid (∀ u, Below w5.heap.size w5 u → Calls Tryd.prog 12 #[.slice la PL.length lc] u fun e w' => e = .returned (.int .i64 (lowR PL)) ∧ Below u.heap.size u w') from fun u hu => lowC_any u _ PL (hOw.mv mov_rep hu.size (Mv.below hu)))
    have HPI := (show Hid (∀ u, Below w5.heap.size w5 u → Calls Tryd.prog 13 #[.slice la PL.length lc] u fun e w' => ∃ v', e = .returned v' ∧ RL RReq 4 (From u.heap.size) w' v' (picksR PL (cntR PL)) ∧ Below u.heap.size u w') from fun u hu => picksC_any u _ PL (hOw.mv mov_rep hu.size (Mv.below hu)) hszp hbd)
    have HLY := (show Hid (RL RRep 8 Any w5 (.slice aa PL.length ca) PL) from hLy)
    have BW5 := below_and BW0 (Nat.le_refl _) hB
    have hlb := lowR_bd hbd
    have hl0 := lowR_nn PL
    have hc16 := cntR_le PL
    clear hOw hLy hT5 hL hvs hz hq hbd HR0 hT0 hlen128 hszp hsz hB BW0 hn
    go_wp2_with fail
    go_loopw [10, 11] (fun s10 s11 wr => ∃ (nn : Int) (m : Nat), m ≤ 17 ∧ 4 ≤ m ∧ s11 = .int .i64 m ∧ s10 = .int .i64 nn ∧ Below w5.heap.size w5 wr) (fun _ s11 _ => 17 - (intOf s11).toNat)
    case atStart => exact ⟨0, 4, by omega, by omega, rfl, rfl, Below.refl _ _⟩
    case round =>
      obtain ⟨nn, m, hm, hm4, rfl, rfl, hBr⟩ := hrel
      by_cases hm16 : m ≤ 16
      case pos =>
        have d16 : decide ((m : Int) ≤ 16) = true := by simp; omega
        have HBR := (show Hid (Calls Tryd.prog 7 #[.int .i64 m] wr fun e w' => e = .returned (.bool (rgt m)) ∧ w' = wr) from Bb.right_any wr m)
        have HBQ := (show Hid (Calls Tryd.prog 8 #[.int .i64 m] wr fun e w' => e = .returned (.int .i64 (quo m)) ∧ w' = wr) from Bb.quorum_any wr m)
        generalize rgt m = rr at *
        generalize quo m = qq at *
        cases rr with
        | false =>
          go_wp2_with (go_at_call 7; refine HBR.out.mono ?_; rintro e w' ⟨rfl, h'⟩; rw [h'])
          go_roundw
          case rel => exact ⟨nn, m + 1, by omega, by omega, by go_num, rfl, hBr⟩
          case measure => simp [intOf]; omega
        | true =>
          by_cases hqq : qq = (PL.length : Int)
          · have dqq : (qq == (PL.length : Int)) = true := by simpa using hqq
            go_wp2_with (first
              | (go_at_call 7; refine HBR.out.mono ?_; rintro e w' ⟨rfl, h'⟩; rw [h'])
              | (go_at_call 8; refine HBQ.out.mono ?_; rintro e w' ⟨rfl, h'⟩; rw [h']))
            go_roundw
            case rel => exact ⟨m, m + 1, by omega, by omega, by go_num, rfl, hBr⟩
            case measure => simp [intOf]; omega
          · have dqq : (qq == (PL.length : Int)) = false := by simpa using hqq
            go_wp2_with (first
              | (go_at_call 7; refine HBR.out.mono ?_; rintro e w' ⟨rfl, h'⟩; rw [h'])
              | (go_at_call 8; refine HBQ.out.mono ?_; rintro e w' ⟨rfl, h'⟩; rw [h']))
            go_roundw
            case rel => exact ⟨nn, m + 1, by omega, by omega, by go_num, rfl, hBr⟩
            case measure => simp [intOf]; omega
      have d16 : decide ((m : Int) ≤ 16) = false := by simp; omega
      obtain ⟨w6, hw6⟩ : ∃ u : World, u = wr := ⟨_, rfl⟩
      subst hw6
      by_cases hn0 : nn = 0
      case pos =>
        subst hn0
        go_wp2_with fail
        go_ret
        exact ⟨rfl, below_and BW5 (Nat.le_refl _) hBr⟩
      have dn0 : (nn == 0) = false := by simpa using hn0
      have hAl := HA1.out w6 nn hBr
      have rB := HCB.out w6 hBr
      cases hall : allL b nn PL with
      | false =>
        rw [hall] at hAl
        go_wp2_with (first
          | (refine wl_part_w (by rfl) _ _ rfl W.heap.size 0 rfl _ _ rB [.int .i64 b.1, .int .i64 b.2] rfl _ Tryd.underlying23 rfl (by kernel_rfl) ?_)
          | (go_at_call 9; refine hAl.mono ?_; rintro e w7 ⟨rfl, b7⟩))
        go_ret
        exact ⟨rfl, below_and BW5 (Nat.le_refl _) (below_and hBr (Nat.le_refl _) b7)⟩
      | true =>
        rw [hall] at hAl
        have HALL := (show Hid (allL b nn PL = true) from hall)
        have hbp : ∀ u, (Instr.build 38 #[(0, .int .i64 (-1))]).run Tryd.prog u = .ok (.agg #[.int .i64 (-1), .int .i64 0, .int .i64 0, .int .i64 0, .int .i64 0, .slice none 0 0, .slice none 0 0, .slice none 0 0]) u := fun u => by kernel_rfl
        clear hall
        go_upto_region 18 with (first
          | (refine wl_part_w (by rfl) _ _ rfl W.heap.size 0 rfl _ _ rB [.int .i64 b.1, .int .i64 b.2] rfl _ Tryd.underlying23 rfl (by kernel_rfl) ?_)
          | (go_at_call 9; refine hAl.mono ?_; rintro e w7 ⟨rfl, b7⟩; have hrow0 := Row.new w7 38 [.int .i64 0, .int .i64 0, .int .i64 0, .int .i64 0, .int .i64 0, .slice none 0 0, .slice none 0 0, .slice none 0 0])
          | (refine wl_store rfl _ _ _ rfl w7.heap.size [.int .i64 (-1), .int .i64 0, .int .i64 0, .int .i64 0, .int .i64 0, .slice none 0 0, .slice none 0 0, .slice none 0 0] rfl rfl _ _ hrow0 rfl (by kernel_rfl) (by intro q hq; simp only [List.mem_cons, List.not_mem_nil, or_false] at hq; rcases hq with rfl | rfl | rfl | rfl | rfl | rfl | rfl | rfl <;> rfl) ?_; intro w8 rH g8))
        have b8 : Below w7.heap.size w7 w8 := (below_alloc w7 (.cells ([.int .i64 0, .int .i64 0, .int .i64 0, .int .i64 0, .int .i64 0, .slice none 0 0, .slice none 0 0, .slice none 0 0] : List Value).toArray 38)).trans (grown_below g8 (by simp) (fun k hk => by cases hk; exact Nat.le_refl _))
        have rH := rH.out
        have B7 := below_and hBr (Nat.le_refl _) b7
        have B8 := below_and B7 (Nat.le_refl _) b8
        have hcH5 : w5.heap.size ≤ w7.heap.size := B7.size
        obtain ⟨cH, hcH⟩ : ∃ c, c = w7.heap.size := ⟨_, rfl⟩
        rw [← hcH] at rH hcH5 ⊢
        clear hrow0 g8 hcH rB hAl b7 b8 B7 hBr HA1 HCB hn0 dn0 d16 hm16 hm hm4 hbp
        have hlpY := hlv
        go_wp2_with fail
        go_loopw [13, 62] (fun s13 j wr => ∃ (n : Nat) (h : PPrep) (ho hs hc : Value) (un : Bool), n ≤ PL.length ∧ j = .int .i64 n ∧ s13 = .bool un ∧ RPrep Any w5 [.int .i64 h.1, .int .i64 h.2.1.1, .int .i64 h.2.1.2, .int .i64 h.2.2.1.1, .int .i64 h.2.2.1.2.1, ho, hs, hc] h ∧ HK k ((PL.take n).foldl (fun (o : Option PPrep) (r : PRep) => pkL k o r.2.2.2.2.2.1) none) h ∧ Row wr cH 38 [.int .i64 h.1, .int .i64 h.2.1.1, .int .i64 h.2.1.2, .int .i64 h.2.2.1.1, .int .i64 h.2.2.1.2.1, ho, hs, hc] ∧ Below w5.heap.size w5 wr) (fun _ j _ => PL.length - (intOf j).toNat)
        case atStart => exact ⟨0, hpr, _, _, _, false, by omega, rfl, rfl, ⟨_, _, _, rfl, RT.nil _ _, RT.nil _ _, RL.nil _ _ _ _⟩, HK.start k, rH, B8⟩
        case round =>
          clear rH B8
          obtain ⟨n, h, ho, hs, hc, un, hn, rfl, rfl, hRH, hHK, rH, hB⟩ := hrel
          by_cases hnl : n < PL.length
          case neg =>
            have hy : PL.take n = PL := List.take_of_length_le (by omega)
            rw [hy] at hHK
            have HHK := (show Hid (HK k (pkR k PL) h) from hHK)
            have HRH := (show Hid (RPrep Any w5 [.int .i64 h.1, .int .i64 h.2.1.1, .int .i64 h.2.1.2, .int .i64 h.2.2.1.1, .int .i64 h.2.2.1.2.1, ho, hs, hc] h) from hRH)
            clear hHK hRH hy
            obtain ⟨w9, hw9⟩ : ∃ u : World, u = wr := ⟨_, rfl⟩
            subst hw9
            have c0 := rH.cell (j := 0) rfl
            have BW9 := below_and BW5 (Nat.le_refl _) hB
            by_cases hhk : h.1 = k
            case neg =>
              have dh : (h.1 != k) = true := by simpa using hhk
              go_wp2_with fail
              go_ret
              exact ⟨rfl, BW9⟩
            have dh : (h.1 != k) = false := by simpa using hhk
            cases un with
            | true =>
              go_wp2_with fail
              go_ret
              exact ⟨rfl, BW9⟩
            | false =>
              by_cases hkl : k ≤ lowR PL
              case pos =>
                have dk : decide (k ≤ lowR PL) = true := by simpa using hkl
                go_wp2_with (first
                  | (go_at_call 12; refine (HLO.out w9 hB).mono ?_; rintro e wa ⟨rfl, ba⟩; have Ba := below_and hB (Nat.le_refl _) ba)
                  | (go_at_call 13; refine (HPI.out wa Ba).mono ?_; rintro e wb ⟨vb, rfl, hvb, bb⟩))
                go_ret
                exact ⟨rfl, below_and BW5 (Nat.le_refl _) (below_and Ba (Nat.le_refl _) bb)⟩
              have dk : decide (k ≤ lowR PL) = false := by simpa using hkl
              obtain ⟨m, hm1, hm2, hm3⟩ := HHK.out.goes hhk HALL.out (by omega)
              have HM3 := (show Hid ((picksR PL (cntR PL))[m]? = some h.2.2.1) from hm3)
              have HLN := (show Hid ((picksR PL (cntR PL)).length = cntR PL) from picksR_len _ _)
              clear hm3
              unfold i64C at hkb hlb
              generalize cntR PL = CN at *
              generalize lowR PL = LR at *
              have hw1 : wrap64 (k - LR) = k - LR := IntWalk.wrap64_in _ ⟨by omega, by omega⟩
              have hw2 : wrap64 (k - LR - 1) = (m : Int) := by rw [IntWalk.wrap64_in _ ⟨by omega, by omega⟩]; exact hm1
              have hwi1 : IntKind.i64.wrap (k - LR) = k - LR := by rw [IntKind.wrap_i64]; omega
              have hwi2 : IntKind.i64.wrap (m : Int) = (m : Int) := by rw [IntKind.wrap_i64]; omega
              go_upto_region 41 with (first
                | (go_at_call 12; refine (HLO.out w9 hB).mono ?_; rintro e wa ⟨rfl, ba⟩; have Ba := below_and hB (Nat.le_refl _) ba)
                | (go_at_call 13; refine (HPI.out wa Ba).mono ?_; rintro e wb ⟨vb, rfl, hvb, bb⟩; obtain ⟨bp, offp, capp, hve, _, _, _, hbp, hat⟩ := hvb.at (by rw [HLN.out]; omega); subst hve; rw [HLN.out]))
              obtain ⟨rq, _, hrng, qo, qs, rfl, y1, y2⟩ := hat m _ HM3.out
              have Bb := below_and Ba (Nat.le_refl _) bb
              have rHb := (rH.below ba).below bb
              have hCN : (m : Int) < CN := by omega
              have d5 : decide (k - LR ≤ (CN : Int)) = true := by simp; omega
              have HC2 := (show Hid (∀ u, Below wb.heap.size wb u → u.rangeAt bp (offp + m * 4) [.int .i64 h.2.2.1.1, .int .i64 h.2.2.1.2.1, qo, qs] ∧ Row u cH 38 [.int .i64 h.1, .int .i64 h.2.1.1, .int .i64 h.2.1.2, .int .i64 h.2.2.1.1, .int .i64 h.2.2.1.2.1, ho, hs, hc]) from fun u hu => ⟨rangeAt_block hrng (hu.block bp hbp), rHb.below hu⟩)
              have HSR := (show Hid (∀ u, Below wb.heap.size wb u → Calls Tryd.prog 11 #[.agg #[.int .i64 h.2.2.1.1, .int .i64 h.2.2.1.2.1, qo, qs], .agg #[.int .i64 h.2.2.1.1, .int .i64 h.2.2.1.2.1, ho, hs]] u fun e w' => e = .returned (.bool true) ∧ Below u.heap.size u w') from fun u hu => by
                obtain ⟨ho', hs', hc', e, z1, z2, z3⟩ := HRH.out
                have e1 : ho' = ho ∧ hs' = hs := by simp at e; exact ⟨e.1.symm, e.2.1.symm⟩
                obtain ⟨rfl, rfl⟩ := e1
                have h9 := sameReq_any u _ _ h.2.2.1 h.2.2.1 (mov_req _ _ _ _ _ _ (⟨_, _, rfl, y1.mv Mv.any, y2.mv Mv.any⟩ : RReq Any wb [.int .i64 h.2.2.1.1, .int .i64 h.2.2.1.2.1, qo, qs] h.2.2.1) hu.size (Mv.below hu)) (mov_req _ _ _ _ _ _ (⟨_, _, rfl, z1, z2⟩ : RReq Any w5 [.int .i64 h.2.2.1.1, .int .i64 h.2.2.1.2.1, ho', hs'] h.2.2.1) (below_and Bb (Nat.le_refl _) hu).size (Mv.below (below_and Bb (Nat.le_refl _) hu)))
                rw [decide_eq_true rfl] at h9
                exact h9)
              have B0 : Below wb.heap.size wb wb.drew := ⟨rfl, rfl, rfl, Nat.le_refl _, fun _ _ => rfl⟩
              clear hrng y1 y2 hat rHb HPI HLO HLY HHK HRH HALL HM3 HLN hlv hl0 hc16 rH hkb hlb hhk hkl dk dh c0 ba hm2
              try go_simp
              refine wp_region_held_drew (S := fun u => Below wb.heap.size wb u) (by kernel_rfl) B0 (fun hHeld => ?_)
              clear hHeld
              refine wpAnyH_take (i := 0) (v := .int .i64 k) rfl (by kernel_rfl) (by kernel_rfl) (by kernel_rfl) (fun _ _ _ h => h) (Or.inl ⟨by kernel_rfl, fun u hSu => by go_simp⟩) B0 ?_
              simp only [Act.put, List.setIfInBounds_toArray, List.set_cons_zero, List.set_cons_succ]
              refine wpAnyH_take (i := 1) (v := .int .i64 LR) rfl (by kernel_rfl) (by kernel_rfl) (by kernel_rfl) (fun _ _ _ h => h) (Or.inl ⟨by kernel_rfl, fun u hSu => by go_simp⟩) B0 ?_
              simp only [Act.put, List.setIfInBounds_toArray, List.set_cons_zero, List.set_cons_succ]
              refine wpAnyH_take (i := 2) (v := .int .i64 (k - LR)) rfl (by kernel_rfl) (by kernel_rfl) (by kernel_rfl) (fun _ _ _ h => h) (Or.inl ⟨by kernel_rfl, fun u hSu => by go_simp⟩) B0 ?_
              simp only [Act.put, List.setIfInBounds_toArray, List.set_cons_zero, List.set_cons_succ]
              refine wpAnyH_take (i := 3) (v := .slice (some ⟨bp, offp, none⟩) CN capp) rfl (by kernel_rfl) (by kernel_rfl) (by kernel_rfl) (fun _ _ _ h => h) (Or.inl ⟨by kernel_rfl, fun u hSu => by go_simp⟩) B0 ?_
              simp only [Act.put, List.setIfInBounds_toArray, List.set_cons_zero, List.set_cons_succ]
              refine wpAnyH_take (i := 4) (v := .int .i64 CN) rfl (by kernel_rfl) (by kernel_rfl) (by kernel_rfl) (fun _ _ _ h => h) (Or.inl ⟨by kernel_rfl, fun u hSu => by go_simp⟩) B0 ?_
              simp only [Act.put, List.setIfInBounds_toArray, List.set_cons_zero, List.set_cons_succ]
              refine wpAnyH_take (i := 5) (v := .bool true) rfl (by kernel_rfl) (by kernel_rfl) (by kernel_rfl) (fun _ _ _ h => h) (Or.inl ⟨by kernel_rfl, fun u hSu => by go_simp⟩) B0 ?_
              simp only [Act.put, List.setIfInBounds_toArray, List.set_cons_zero, List.set_cons_succ]
              refine wpAnyH_take (i := 6) (v := .bool true) rfl (by kernel_rfl) (by kernel_rfl) (by kernel_rfl) (fun _ _ _ h => h) (Or.inl ⟨by kernel_rfl, fun u hSu => by go_simp⟩) B0 ?_
              simp only [Act.put, List.setIfInBounds_toArray, List.set_cons_zero, List.set_cons_succ]
              refine wpAnyH_take (i := 7) (v := .slice (some ⟨bp, offp, none⟩) CN capp) rfl (by kernel_rfl) (by kernel_rfl) (by kernel_rfl) (fun _ _ _ h => h) (Or.inl ⟨by kernel_rfl, fun u hSu => by go_simp⟩) B0 ?_
              simp only [Act.put, List.setIfInBounds_toArray, List.set_cons_zero, List.set_cons_succ]
              refine wpAnyH_take (i := 8) (v := .int .i64 k) rfl (by kernel_rfl) (by kernel_rfl) (by kernel_rfl) (fun _ _ _ h => h) (Or.inl ⟨by kernel_rfl, fun u hSu => by go_simp⟩) B0 ?_
              simp only [Act.put, List.setIfInBounds_toArray, List.set_cons_zero, List.set_cons_succ]
              refine wpAnyH_take (i := 9) (v := .int .i64 LR) rfl (by kernel_rfl) (by kernel_rfl) (by kernel_rfl) (fun _ _ _ h => h) (Or.inl ⟨by kernel_rfl, fun u hSu => by go_simp⟩) B0 ?_
              simp only [Act.put, List.setIfInBounds_toArray, List.set_cons_zero, List.set_cons_succ]
              refine wpAnyH_take (i := 10) (v := .int .i64 (k - LR)) rfl (by kernel_rfl) (by kernel_rfl) (by kernel_rfl) (fun _ _ _ h => h) (Or.inl ⟨by kernel_rfl, fun u hSu => by go_simp⟩) B0 ?_
              simp only [Act.put, List.setIfInBounds_toArray, List.set_cons_zero, List.set_cons_succ]
              refine wpAnyH_take (i := 11) (v := .int .i64 m) rfl (by kernel_rfl) (by kernel_rfl) (by kernel_rfl) (fun _ _ _ h => h) (Or.inl ⟨by kernel_rfl, fun u hSu => by go_simp⟩) B0 ?_
              simp only [Act.put, List.setIfInBounds_toArray, List.set_cons_zero, List.set_cons_succ]
              refine wpAnyH_take (i := 12) (v := .pointer (some ⟨bp, offp + m * 4, none⟩)) rfl (by kernel_rfl) (by kernel_rfl) (by kernel_rfl) (fun _ _ _ h => h) (Or.inl ⟨by kernel_rfl, fun u hSu => by go_simp⟩) B0 ?_
              simp only [Act.put, List.setIfInBounds_toArray, List.set_cons_zero, List.set_cons_succ]
              refine wpAnyH_take (i := 13) (v := .agg #[.int .i64 h.2.2.1.1, .int .i64 h.2.2.1.2.1, qo, qs]) rfl (by kernel_rfl) (by kernel_rfl) (by kernel_rfl) (fun _ _ _ h => h) (yieldsIf_load_mid (by kernel_rfl) _ _ rfl bp (offp + m * 4) (by go_simp) [.int .i64 h.2.2.1.1, .int .i64 h.2.2.1.2.1, qo, qs] _ (fun u hSu => (HC2.out u hSu).1) Tryd.underlying36 rfl (by kernel_rfl)) B0 ?_
              simp only [Act.put, List.setIfInBounds_toArray, List.set_cons_zero, List.set_cons_succ]
              refine wpAnyH_take (i := 14) (v := .pointer (some ⟨cH, 3, none⟩)) rfl (by kernel_rfl) (by kernel_rfl) (by kernel_rfl) (fun _ _ _ h => h) (Or.inl ⟨by kernel_rfl, fun u hSu => by go_simp⟩) B0 ?_
              simp only [Act.put, List.setIfInBounds_toArray, List.set_cons_zero, List.set_cons_succ]
              refine wpAnyH_take (i := 15) (v := .agg #[.int .i64 h.2.2.1.1, .int .i64 h.2.2.1.2.1, ho, hs]) rfl (by kernel_rfl) (by kernel_rfl) (by kernel_rfl) (fun _ _ _ h => h) (yieldsIf_load_mid (by kernel_rfl) _ _ rfl cH 3 (by go_simp) [.int .i64 h.2.2.1.1, .int .i64 h.2.2.1.2.1, ho, hs] _ (fun u hSu => ((HC2.out u hSu).2).mid 3 rfl) Tryd.underlying36 rfl (by kernel_rfl)) B0 ?_
              simp only [Act.put, List.setIfInBounds_toArray, List.set_cons_zero, List.set_cons_succ]
              refine wpAnyH_ready (rs := [16]) (by kernel_rfl) (by simp) ?_
              refine AllReadyH.cons (o := _) rfl (fun K hK => ?_) AllReadyH.nil
              go_simp
              refine (HSR.out _ B0).mono ?_
              rintro e wz ⟨rfl, bz⟩
              have Bz := below_and B0 (Nat.le_refl _) bz
              try go_simp
              refine hK.out _ _ Bz (fun hHeld => ?_)
              clear hK K hHeld
              refine wpAnyH_take (i := 17) (v := .bool true) rfl (by kernel_rfl) (by kernel_rfl) (by kernel_rfl) (fun _ _ _ h => h) (Or.inl ⟨by kernel_rfl, fun u hSu => by go_simp⟩) Bz ?_
              simp only [Act.put, List.setIfInBounds_toArray, List.set_cons_zero, List.set_cons_succ]
              refine wpAnyH_ready (rs := [18]) (by kernel_rfl) (by simp) ?_
              refine AllReadyH.cons (o := _) rfl (fun K hK => ?_) AllReadyH.nil
              go_simp
              refine hK.out _ _ Bz (fun hHeld => ?_)
              clear hK K hHeld
              refine wpAnyH_done (by kernel_rfl) ?_ _
              go_wp2_with fail
              go_ret
              exact ⟨rfl, below_and BW5 (Nat.le_refl _) (below_and Bb (Nat.le_refl _) Bz)⟩
          have hvs := HLY.out
          obtain ⟨A, hA⟩ : ∃ A, PL[n]? = some A := ⟨_, List.getElem?_eq_getElem hnl⟩
          obtain ⟨bv, off, cap, hve, _, _, _, hbv, hat⟩ := hvs.at (by omega)
          obtain ⟨rvv, _, hrng, rd, rs, rp, rg, rfl, t1, t2, t3, t4⟩ := hat n _ hA
          injection hve with hv1 hv2 hv3
          subst hv1 hv3
          clear hv2 hat
          have hrng := rangeAt_block hrng (hB.block bv hbv)
          have hrow0 := Row.new wr 30 [.int .i64 0, .int .i64 0, .int .i64 0, .int .i64 0, .slice none 0 0, .slice none 0 0, .slice none 0 0, .slice none 0 0]
          have hon := one_RRep (G := Any) (w := w5) (x := A) ⟨rd, rs, rp, rg, rfl, t1, t2, t3, t4⟩
          go_upto_region 22 with (first
            | (refine wpList_load_mid rfl _ _ rfl bv (off + n * 8) rfl [.int .i64 A.1.1, .int .i64 A.1.2, .int .i64 A.2.1, .int .i64 A.2.2.1, rd, rs, rp, rg] _ hrng Tryd.underlying30 rfl (by kernel_rfl) ?_)
            | (refine wl_store rfl _ _ _ rfl wr.heap.size [.int .i64 A.1.1, .int .i64 A.1.2, .int .i64 A.2.1, .int .i64 A.2.2.1, rd, rs, rp, rg] rfl rfl _ _ hrow0 rfl (by kernel_rfl) hon ?_; intro w8 rR g8))
          have b8 : Below wr.heap.size wr w8 := (below_alloc wr (.cells ([.int .i64 0, .int .i64 0, .int .i64 0, .int .i64 0, .slice none 0 0, .slice none 0 0, .slice none 0 0, .slice none 0 0] : List Value).toArray 30)).trans (grown_below g8 (by simp) (fun k hk => by cases hk; exact Nat.le_refl _))
          have rR := rR.out
          have hB8 := below_and hB (Nat.le_refl _) b8
          obtain ⟨cR, hcR⟩ : ∃ c, c = wr.heap.size := ⟨_, rfl⟩
          rw [← hcR] at rR ⊢
          clear hrow0 g8 hrng hon
          clear hcR hvs
          have hst := foldl_take (f := (fun (o : Option PPrep) (r : PRep) => pkL k o r.2.2.2.2.2.1)) (b := none) hA
          have HST := (show Hid (_ = _) from hst)
          have rH8 := rH.below b8
          obtain ⟨pa, pcap, rfl, _⟩ := t3.form
          have k6 := rR.cell (j := 6) rfl
          have hlp : (A.2.2.2.2.2.1.length : Int) ≤ 9223372036854775807 := by
            by_cases h0 : 0 < A.2.2.2.2.2.1.length
            · obtain ⟨_, _, _, _, h1, h2, _⟩ := t3.at h0
              unfold maxLen at h2
              omega
            · omega
          have HT := (show Hid (RL RPrep 8 Any w5 (.slice pa A.2.2.2.2.2.1.length pcap) A.2.2.2.2.2.1) from t3)
          have HS2 := (show Hid (∀ o, (fun (o : Option PPrep) (r : PRep) => pkL k o r.2.2.2.2.2.1) o A = A.2.2.2.2.2.1.foldl (pkS k) o) from fun _ => rfl)
          clear hst hA t1 t2 t3 t4 hB b8 rH
          generalize (PL.take n).foldl (fun (o : Option PPrep) (r : PRep) => pkL k o r.2.2.2.2.2.1) none = o0 at *
          generalize hPS : A.2.2.2.2.2.1 = PS at *
          clear hPS
          go_wp2_with fail
          go_loopw [13, 69] (fun s13 j wr => ∃ (i : Nat) (h : PPrep) (ho hs hc : Value) (un : Bool), i ≤ PS.length ∧ j = .int .i64 i ∧ s13 = .bool un ∧ RPrep Any w5 [.int .i64 h.1, .int .i64 h.2.1.1, .int .i64 h.2.1.2, .int .i64 h.2.2.1.1, .int .i64 h.2.2.1.2.1, ho, hs, hc] h ∧ HK k ((PS.take i).foldl (pkS k) o0) h ∧ Row wr cH 38 [.int .i64 h.1, .int .i64 h.2.1.1, .int .i64 h.2.1.2, .int .i64 h.2.2.1.1, .int .i64 h.2.2.1.2.1, ho, hs, hc] ∧ Below w5.heap.size w5 wr) (fun _ j _ => PS.length - (intOf j).toNat)
          case atStart => exact ⟨0, h, _, _, _, un, by omega, rfl, rfl, hRH, hHK, rH8, hB8⟩
          case round =>
            clear hRH hHK rH8 hB8 k6 rR
            obtain ⟨i, h, ho, hs, hc, un, hi, rfl, rfl, hRH, hHK, rH, hB⟩ := hrel
            by_cases hil : i < PS.length
            case neg =>
              have hy : PS.take i = PS := List.take_of_length_le (by omega)
              have e : (PS.take i).foldl (pkS k) o0 = (PL.take (n + 1)).foldl (fun (o : Option PPrep) (r : PRep) => pkL k o r.2.2.2.2.2.1) none := by rw [hy, HST.out]; first | rfl | exact (HS2.out _).symm | exact HS2.out _
              rw [e] at hHK
              have HHK := (show Hid (HK k _ h) from hHK)
              clear hy hHK
              go_wp2_with fail
              go_roundw
              case rel => exact ⟨n + 1, h, _, _, _, un, by omega, by go_num, rfl, hRH, HHK.out, rH, hB⟩
              case measure => simp [intOf]; omega
            obtain ⟨P, hP⟩ : ∃ P, PS[i]? = some P := ⟨_, List.getElem?_eq_getElem hil⟩
            obtain ⟨bw, offp, capp, hve, _, _, _, hbw, hat⟩ := (HT.out).at (by omega)
            obtain ⟨rww, _, hrnp, po, ps, pc, rfl, u1, u2, u3⟩ := hat i _ hP
            injection hve with hv1 hv2 hv3
            subst hv1 hv3
            clear hv2 hat
            have hrnp := rangeAt_block hrnp (hB.block bw hbw)
            have hrow0 := Row.new wr 38 [.int .i64 0, .int .i64 0, .int .i64 0, .int .i64 0, .int .i64 0, .slice none 0 0, .slice none 0 0, .slice none 0 0]
            have hon := one_RPrep (G := Any) (w := w5) (x := P) ⟨po, ps, pc, rfl, u1, u2, u3⟩
            go_upto_region 25 with (first
              | (refine wpList_load_mid rfl _ _ rfl bw (offp + i * 8) rfl [.int .i64 P.1, .int .i64 P.2.1.1, .int .i64 P.2.1.2, .int .i64 P.2.2.1.1, .int .i64 P.2.2.1.2.1, po, ps, pc] _ hrnp Tryd.underlying38 rfl (by kernel_rfl) ?_)
              | (refine wl_store rfl _ _ _ rfl wr.heap.size [.int .i64 P.1, .int .i64 P.2.1.1, .int .i64 P.2.1.2, .int .i64 P.2.2.1.1, .int .i64 P.2.2.1.2.1, po, ps, pc] rfl rfl _ _ hrow0 rfl (by kernel_rfl) hon ?_; intro w9 rP g9))
            have b9 : Below wr.heap.size wr w9 := (below_alloc wr (.cells ([.int .i64 0, .int .i64 0, .int .i64 0, .int .i64 0, .int .i64 0, .slice none 0 0, .slice none 0 0, .slice none 0 0] : List Value).toArray 38)).trans (grown_below g9 (by simp) (fun k hk => by cases hk; exact Nat.le_refl _))
            have rP := rP.out
            have hB9 := below_and hB (Nat.le_refl _) b9
            obtain ⟨cP, hcP⟩ : ∃ c, c = wr.heap.size := ⟨_, rfl⟩
            rw [← hcP] at rP ⊢
            clear hrow0 g9 hrnp hon
            clear hcP
            have hst := foldl_take (f := pkS k) (b := o0) hP
            have HST2 := (show Hid (_ = _) from hst)
            have rH9 := rH.below b9
            have HRP := (show Hid (RPrep Any w5 [.int .i64 P.1, .int .i64 P.2.1.1, .int .i64 P.2.1.2, .int .i64 P.2.2.1.1, .int .i64 P.2.2.1.2.1, po, ps, pc] P) from ⟨_, _, _, rfl, u1, u2, u3⟩)
            have HRH := (show Hid (RPrep Any w5 [.int .i64 h.1, .int .i64 h.2.1.1, .int .i64 h.2.1.2, .int .i64 h.2.2.1.1, .int .i64 h.2.2.1.2.1, ho, hs, hc] h) from hRH)
            have HHK := (show Hid (HK k ((PS.take i).foldl (pkS k) o0) h) from hHK)
            have hon8 := one_RPrep HRP.out
            have p0 := rP.cell (j := 0) rfl
            have h0 := rH9.cell (j := 0) rfl
            clear hst hP b9 u1 u2 u3 hRH hHK rH hB
            generalize (PS.take i).foldl (pkS k) o0 = oo at *
            by_cases hk : P.1 = k
            case neg =>
              have d1 : (P.1 != k) = true := by simpa using hk
              have hkk := HHK.out.skip hk
              have HKK := (show Hid (HK k (pkS k oo P) h) from hkk)
              clear hkk hk
              go_wp2_with fail
              go_roundw
              case rel => exact ⟨i + 1, h, _, _, _, un, by omega, by go_num, rfl, HRH.out, by rw [HST2.out]; exact HKK.out, rH9, hB9⟩
              case measure => simp [intOf]; omega
            have d1 : (P.1 != k) = false := by simpa using hk
            have HKP := (show Hid (P.1 = k) from hk)
            clear hk
            by_cases hhk : h.1 = k
            case neg =>
              have d2 : (h.1 == k) = false := by simpa using hhk
              have HKK := (show Hid (HK k (pkS k oo P) P) from HHK.out.new HKP.out (fun e => absurd e hhk))
              clear hhk
              go_wp2_with (first
                | (refine wl_load_w (by rfl) _ _ rfl cP rfl _ _ rP _ Tryd.underlying38 rfl (by kernel_rfl) ?_)
                | (refine wl_store rfl _ _ _ rfl cH [.int .i64 P.1, .int .i64 P.2.1.1, .int .i64 P.2.1.2, .int .i64 P.2.2.1.1, .int .i64 P.2.2.1.2.1, po, ps, pc] rfl rfl _ _ rH9 rfl (by kernel_rfl) hon8 ?_; intro wy Ry gy))
              go_roundw
              case rel => exact ⟨i + 1, P, _, _, _, false, by omega, by go_num, rfl, HRP.out, by rw [HST2.out]; exact HKK.out, Ry.out, hB9.trans (grown_below gy hB9.size (fun q hq => by cases hq; exact hcH5))⟩
              case measure => simp [intOf]; omega
            have d2 : (h.1 == k) = true := by simpa using hhk
            have HHH := (show Hid (h.1 = k) from hhk)
            have hC := compareB_any w9 P.2.1.1 P.2.1.2 h.2.1.1 h.2.1.2
            have HNW := (show Hid (0 < cmp2 P.2.1.1 P.2.1.2 h.2.1.1 h.2.1.2 → HK k (pkS k oo P) P) from fun hc => HHK.out.new HKP.out (fun _ => hc))
            have HOL := (show Hid (¬ 0 < cmp2 P.2.1.1 P.2.1.2 h.2.1.1 h.2.1.2 → HK k (pkS k oo P) h) from fun hc => HHK.out.old HKP.out HHH.out hc)
            clear hhk
            generalize cmp2 P.2.1.1 P.2.1.2 h.2.1.1 h.2.1.2 = cc at *
            have arm1 : True := trivial
            by_cases hc0 : 0 < cc
            case pos =>
              have d3 : decide (0 < cc) = true := by simpa using hc0
              have d4 : (cc == 0) = false := by simp; omega
              have hnw := HNW.out hc0
              have HKK := (show Hid (HK k (pkS k oo P) P) from hnw)
              clear hc0 hnw
              go_wp2_with (first
                | (refine wl_part_w (by rfl) _ _ rfl cP 1 rfl _ _ rP [.int .i64 P.2.1.1, .int .i64 P.2.1.2] rfl _ Tryd.underlying23 rfl (by kernel_rfl) ?_)
                | (refine wl_part_w (by rfl) _ _ rfl cH 1 rfl _ _ rH9 [.int .i64 h.2.1.1, .int .i64 h.2.1.2] rfl _ Tryd.underlying23 rfl (by kernel_rfl) ?_)
                | (go_at_call 10; refine hC.mono ?_; rintro e wx ⟨rfl, bx⟩; have rPx := rP.below bx; have rHx := rH9.below bx)
                | (refine wl_load_w (by rfl) _ _ rfl cP rfl _ _ rPx _ Tryd.underlying38 rfl (by kernel_rfl) ?_)
                | (refine wl_store rfl _ _ _ rfl cH [.int .i64 P.1, .int .i64 P.2.1.1, .int .i64 P.2.1.2, .int .i64 P.2.2.1.1, .int .i64 P.2.2.1.2.1, po, ps, pc] rfl rfl _ _ rHx rfl (by kernel_rfl) hon8 ?_; intro wy Ry gy))
              have hBx := below_and hB9 (Nat.le_refl _) bx
              go_roundw
              case rel => exact ⟨i + 1, P, _, _, _, false, by omega, by go_num, rfl, HRP.out, by rw [HST2.out]; exact HKK.out, Ry.out, hBx.trans (grown_below gy hBx.size (fun q hq => by cases hq; exact hcH5))⟩
              case measure => simp [intOf]; omega
            have d3 : decide (0 < cc) = false := by simpa using hc0
            have hol := HOL.out hc0
            have HKK := (show Hid (HK k (pkS k oo P) h) from hol)
            clear hol
            cases un with
            | true =>
              clear hc0
              go_wp2_with (first
                | (refine wl_part_w (by rfl) _ _ rfl cP 1 rfl _ _ rP [.int .i64 P.2.1.1, .int .i64 P.2.1.2] rfl _ Tryd.underlying23 rfl (by kernel_rfl) ?_)
                | (refine wl_part_w (by rfl) _ _ rfl cH 1 rfl _ _ rH9 [.int .i64 h.2.1.1, .int .i64 h.2.1.2] rfl _ Tryd.underlying23 rfl (by kernel_rfl) ?_)
                | (go_at_call 10; refine hC.mono ?_; rintro e wx ⟨rfl, bx⟩; have rHx := rH9.below bx))
              go_roundw
              case rel => exact ⟨i + 1, h, _, _, _, true, by omega, by go_num, rfl, HRH.out, by rw [HST2.out]; exact HKK.out, rHx, below_and hB9 (Nat.le_refl _) bx⟩
              case measure => simp [intOf]; omega
            | false =>
              by_cases hcz : cc = 0
              case neg =>
                have d4 : (cc == 0) = false := by simpa using hcz
                clear hc0 hcz
                go_wp2_with (first
                  | (refine wl_part_w (by rfl) _ _ rfl cP 1 rfl _ _ rP [.int .i64 P.2.1.1, .int .i64 P.2.1.2] rfl _ Tryd.underlying23 rfl (by kernel_rfl) ?_)
                  | (refine wl_part_w (by rfl) _ _ rfl cH 1 rfl _ _ rH9 [.int .i64 h.2.1.1, .int .i64 h.2.1.2] rfl _ Tryd.underlying23 rfl (by kernel_rfl) ?_)
                  | (go_at_call 10; refine hC.mono ?_; rintro e wx ⟨rfl, bx⟩; have rHx := rH9.below bx))
                go_roundw
                case rel => exact ⟨i + 1, h, _, _, _, false, by omega, by go_num, rfl, HRH.out, by rw [HST2.out]; exact HKK.out, rHx, below_and hB9 (Nat.le_refl _) bx⟩
                case measure => simp [intOf]; omega
              subst hcz
              clear hc0
              have HSQ := (show Hid (∀ u, Below w9.heap.size w9 u → Calls Tryd.prog 11 #[.agg #[.int .i64 P.2.2.1.1, .int .i64 P.2.2.1.2.1, po, ps], .agg #[.int .i64 h.2.2.1.1, .int .i64 h.2.2.1.2.1, ho, hs]] u fun e w' => e = .returned (.bool (decide (P.2.2.1 = h.2.2.1))) ∧ Below u.heap.size u w') from fun u hu => by
                obtain ⟨po', ps', pc', e, z1, z2, z3⟩ := HRP.out
                have e1 : po' = po ∧ ps' = ps := by simp at e; exact ⟨e.1.symm, e.2.1.symm⟩
                obtain ⟨rfl, rfl⟩ := e1
                obtain ⟨ho', hs', hc', e, z4, z5, z6⟩ := HRH.out
                have e1 : ho' = ho ∧ hs' = hs := by simp at e; exact ⟨e.1.symm, e.2.1.symm⟩
                obtain ⟨rfl, rfl⟩ := e1
                have bu := below_and hB9 (Nat.le_refl _) hu
                exact sameReq_any u _ _ P.2.2.1 h.2.2.1 (mov_req _ _ _ _ _ _ (⟨_, _, rfl, z1, z2⟩ : RReq Any w5 _ P.2.2.1) bu.size (Mv.below bu)) (mov_req _ _ _ _ _ _ (⟨_, _, rfl, z4, z5⟩ : RReq Any w5 _ h.2.2.1) bu.size (Mv.below bu)))
              generalize decide (P.2.2.1 = h.2.2.1) = sm at *
              go_wp2_with (first
                | (refine wl_part_w (by rfl) _ _ rfl cP 1 rfl _ _ rP [.int .i64 P.2.1.1, .int .i64 P.2.1.2] rfl _ Tryd.underlying23 rfl (by kernel_rfl) ?_)
                | (refine wl_part_w (by rfl) _ _ rfl cH 1 rfl _ _ rH9 [.int .i64 h.2.1.1, .int .i64 h.2.1.2] rfl _ Tryd.underlying23 rfl (by kernel_rfl) ?_)
                | (go_at_call 10; refine hC.mono ?_; rintro e wx ⟨rfl, bx⟩; have rPx := rP.below bx; have rHx := rH9.below bx)
                | (refine wl_part_w (by rfl) _ _ rfl cP 3 rfl _ _ rPx [.int .i64 P.2.2.1.1, .int .i64 P.2.2.1.2.1, po, ps] rfl _ Tryd.underlying36 rfl (by kernel_rfl) ?_)
                | (refine wl_part_w (by rfl) _ _ rfl cH 3 rfl _ _ rHx [.int .i64 h.2.2.1.1, .int .i64 h.2.2.1.2.1, ho, hs] rfl _ Tryd.underlying36 rfl (by kernel_rfl) ?_)
                | (go_at_call 11; refine (HSQ.out wx bx).mono ?_; rintro e wy ⟨rfl, by'⟩; have rHy := rHx.below by'))
              go_roundw
              case rel => exact ⟨i + 1, h, _, _, _, _, by omega, by go_num, rfl, HRH.out, by rw [HST2.out]; exact HKK.out, rHy, below_and (below_and hB9 (Nat.le_refl _) bx) (Nat.le_refl _) by'⟩
              case measure => simp [intOf]; omega
end
end Go.Proofs.YtgbfmccecnfooaaDoor
