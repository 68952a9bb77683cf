/- What the rows' list gives: the table of constants; and a world that holds it, for the witness. -/
import Derived.Test.YtgbfmccecnfooaaGreatDoorCRBT
import Derived.Test.YtgbfmccecnfooaaGreatDoorCRAP
import Derived.Test.YtgbfmccecnfooaaGreatDoorCRAV
import Derived.Test.YtgbfmccecnfooaaGreatDoorCRBQ
import Derived.Test.YtgbfmccecnfooaaGreatDoorRows
import Derived.Test.YtgbfmccecnfooaaGreatDoorCRAM
import Derived.Deep.DeepHandedRow
import Derived.Lib.LaidTab
set_option linter.unusedSimpArgs false
set_option linter.unusedVariables false
namespace Go.Proofs.YtgbfmccecnfooaaGreatDoor
section
open Go.RowKit Oct Bal
set_option maxRecDepth 10000 in
set_option maxHeartbeats 4000000 in
theorem isStabC_any (w : World) (r : List Value) (x : PRep) (n : Int) (h : RRep Any w r x) (hT : Tab w) :
    Calls Tryz.prog 32 #[.agg r.toArray, .int .i64 n] w fun e w' => e = .returned (.bool (stabL n x)) ∧ Below w.heap.size w w' := by
  obtain ⟨rd, rs, rp, rg, rfl, t1, t2, t3, t4⟩ := h
  obtain ⟨ad, cd, rfl, _⟩ := t1.form
  obtain ⟨av, cv, rfl, _⟩ := t2.form
  obtain ⟨ap, cp, rfl, _⟩ := t3.form
  obtain ⟨w1, hw1⟩ : ∃ u, u = w.alloc (.cells #[.int .i64 x.1.1, .int .i64 x.1.2, .int .i64 x.2.1, .int .i64 x.2.2.1, .slice ad x.2.2.2.1.length cd, .slice av x.2.2.2.2.1.length cv, .slice ap x.2.2.2.2.2.1.length cp, rg] 28) := ⟨_, rfl⟩
  have r1 : Row w1 w.heap.size 28 [.int .i64 x.1.1, .int .i64 x.1.2, .int .i64 x.2.1, .int .i64 x.2.2.1, .slice ad x.2.2.2.1.length cd, .slice av x.2.2.2.2.1.length cv, .slice ap x.2.2.2.2.2.1.length cp, rg] := by rw [hw1]; exact Row.new _ _ _
  have b1 : Below w.heap.size w w1 := by rw [hw1]; exact below_alloc _ _
  have HCE := (show Hid (x.2.2.2.1.length = 32 → Calls Tryz.prog 60 #[.int .i64 10, .agg #[.int .i64 0, .int .i64 0], .int .i64 x.2.2.1, .slice ad x.2.2.2.1.length cd, .slice av x.2.2.2.2.1.length cv, .int .i64 n] w1 fun e w' => e = .returned (.bool (certL (rightV 10 0 0 x.2.2.1 x.2.2.2.1) n x.2.2.2.2.1)) ∧ Below w1.heap.size w1 w') from fun h32 => vCert_any w1 10 0 0 x.2.2.1 _ _ n _ _ (t1.mv (Mv.below b1)).1 (by omega) (t2.mv mov_vote b1.size (Mv.below b1)) (hT.below b1))
  have k3 := r1.cell (j := 3) rfl
  have k4 := r1.cell (j := 4) rfl
  have k5 := r1.cell (j := 5) rfl
  have hbz : ∀ u, (Instr.build 23 #[]).run Tryz.prog u = .ok (.agg #[.int .i64 0, .int .i64 0]) u := fun u => by kernel_rfl
  unfold stabL
  clear t1 t2 t3 t4 r1 hT
  generalize certL (rightV 10 0 0 x.2.2.1 x.2.2.2.1) n x.2.2.2.2.1 = cv0 at *
  generalize x.2.2.2.1.length = dl at *
  generalize x.2.2.2.2.1.length = vl at *
  generalize x.2.2.1 = low at *
  by_cases h0 : low = 0
  · subst h0
    rw [if_pos rfl]
    by_cases hd : dl = 0
    · subst hd
      have d2 : ((vl : Int) == 0) = decide (vl = 0) := by rw [Bool.eq_iff_iff]; simp
      go_enter Tryz.func32, Tryz.ntmps32
      go_upto_region 1 with fail
      rw [← hw1]
      clear hw1
      go_wp2_with fail
      go_ret
      exact ⟨by simp [d2], b1⟩
    · have d1 : ((dl : Int) == 0) = false := by simp; omega
      go_enter Tryz.func32, Tryz.ntmps32
      go_upto_region 1 with fail
      rw [← hw1]
      clear hw1
      go_wp2_with fail
      go_ret
      exact ⟨by simp [hd], b1⟩
  have d0 : (low == 0) = false := by simpa using h0
  rw [if_neg h0]
  by_cases h4 : 4 ≤ low
  case neg =>
    have d1 : decide (4 ≤ low) = false := by simpa using h4
    go_enter Tryz.func32, Tryz.ntmps32
    go_upto_region 1 with fail
    rw [← hw1]
    clear hw1
    go_wp2_with fail
    go_ret
    exact ⟨by simp [d1], b1⟩
  have d1 : decide (4 ≤ low) = true := by simpa using h4
  by_cases hM : low ≤ 1000000
  case neg =>
    have d2 : decide (low ≤ 1000000) = false := by simpa using hM
    go_enter Tryz.func32, Tryz.ntmps32
    go_upto_region 1 with fail
    rw [← hw1]
    clear hw1
    go_wp2_with fail
    go_ret
    exact ⟨by simp [d2], b1⟩
  have d2 : decide (low ≤ 1000000) = true := by simpa using hM
  have htm : Int.tmod low 4 = low % 4 := Int.tmod_eq_emod_of_nonneg (by omega)
  have hwr : wrap64 (low % 4) = low % 4 := IntWalk.wrap64_in _ ⟨by omega, by omega⟩
  rw [htm]
  by_cases hr : low % 4 = 0
  case neg =>
    have d3 : (low % 4 == 0) = false := by simpa using hr
    go_enter Tryz.func32, Tryz.ntmps32
    go_upto_region 1 with fail
    rw [← hw1]
    clear hw1
    go_wp2_with fail
    go_ret
    exact ⟨by simp [hr], b1⟩
  have d3 : (low % 4 == 0) = true := by simpa using hr
  by_cases hl : dl = 32
  case neg =>
    have d4 : ((dl : Int) == 32) = false := by simp; omega
    go_enter Tryz.func32, Tryz.ntmps32
    go_upto_region 1 with fail
    rw [← hw1]
    clear hw1
    go_wp2_with fail
    go_ret
    exact ⟨by simp [hl], b1⟩
  subst hl
  have hce := HCE.out rfl
  go_enter Tryz.func32, Tryz.ntmps32
  go_upto_region 1 with fail
  rw [← hw1]
  clear hw1
  go_wp2_with (go_at_call 60; refine hce.mono ?_; rintro e w2 ⟨rfl, b2⟩)
  go_ret
  exact ⟨by simp [d1, d2, hr], below_and b1 (Nat.le_refl _) b2⟩
set_option maxRecDepth 10000 in
set_option maxHeartbeats 8000000 in
theorem arePrepC_any (w : World) (r : List Value) (x : PRep) (n : Int) (h : RRep Any w r x) (hq : okQ x) (hlow : 0 ≤ x.2.2.1 ∧ x.2.2.1 ≤ 1000000) (hT : Tab w) :
    Calls Tryz.prog 33 #[.agg r.toArray, .int .i64 n] w fun e w' => e = .returned (.bool (prepsW x.1 n x.2.2.1 x.2.2.1 x.2.2.2.2.2.1)) ∧ Below w.heap.size w w' := by
  obtain ⟨rd, rs, rp, rg, rfl, t1, t2, t3, t4⟩ := h
  obtain ⟨ap, cp, rfl, _⟩ := t3.form
  obtain ⟨w1, hw1⟩ : ∃ u, u = w.alloc (.cells #[.int .i64 x.1.1, .int .i64 x.1.2, .int .i64 x.2.1, .int .i64 x.2.2.1, rd, rs, .slice ap x.2.2.2.2.2.1.length cp, rg] 28) := ⟨_, rfl⟩
  have r1 : Row w1 w.heap.size 28 [.int .i64 x.1.1, .int .i64 x.1.2, .int .i64 x.2.1, .int .i64 x.2.2.1, rd, rs, .slice ap x.2.2.2.2.2.1.length cp, rg] := by rw [hw1]; exact Row.new _ _ _
  have b1 : Below w.heap.size w w1 := by rw [hw1]; exact below_alloc _ _
  have hlp : (x.2.2.2.2.2.1.length : Int) ≤ 9223372036854775807 := by
    by_cases h0 : 0 < x.2.2.2.2.2.1.length
    · obtain ⟨_, _, _, _, h1, h2, _⟩ := t3.at h0
      unfold maxLen at h2
      omega
    · omega
  have HT := (show Hid (RL RPrep 8 Any w (.slice ap x.2.2.2.2.2.1.length cp) x.2.2.2.2.2.1) from t3)
  have HTB := (show Hid (Tab w) from hT)
  have HQ := (show Hid (okQ x) from hq)
  have k3 := r1.cell (j := 3) rfl
  have k6 := r1.cell (j := 6) rfl
  unfold okQ at HQ
  generalize x.2.2.2.2.2.1 = PS at *
  generalize x.2.2.1 = low at *
  have hwr : wrap64 (low + 16) = low + 16 := IntWalk.wrap64_in _ ⟨by omega, by omega⟩
  clear t1 t2 t3 t4 hT hq
  go_enter Tryz.func33, Tryz.ntmps33
  go_upto_region 1 with fail
  rw [← hw1]
  clear hw1
  go_wp2_with fail
  go_loopw [5, 13] (fun s5 j wr => ∃ (i : Nat) (last : Int), i ≤ PS.length ∧ j = .int .i64 i ∧ s5 = .int .i64 last ∧ prepsW x.1 n low low PS = prepsW x.1 n low last (PS.drop i) ∧ Below w.heap.size w wr ∧ Below w1.heap.size w1 wr) (fun _ j _ => PS.length - (intOf j).toNat)
  case atStart => exact ⟨0, low, by omega, rfl, rfl, rfl, b1, Below.refl _ _⟩
  case round =>
    obtain ⟨i, last, hi, rfl, rfl, hW, hB, hB1⟩ := hrel
    by_cases hil : i < PS.length
    case neg =>
      rw [List.drop_of_length_le (by omega)] at hW
      have HW := (show Hid (_ = _) from hW)
      clear hW
      go_wp2_with fail
      go_ret
      exact ⟨by rw [HW.out]; rfl, hB⟩
    obtain ⟨P, hP⟩ : ∃ P, PS[i]? = some P := ⟨_, List.getElem?_eq_getElem hil⟩
    obtain ⟨bw, offp, capp, hve, _, _, _, hbw, hat⟩ := (HT.out).at (by omega)
    obtain ⟨rww, _, hrnp, po, ps, pc, rfl, u1, u2, u3⟩ := hat i _ hP
    injection hve with hv1 hv2 hv3
    subst hv1 hv3
    clear hv2 hat
    have hrnp := rangeAt_block hrnp (hB.block bw hbw)
    have hrow0 := Row.new wr 66 [.int .i64 0, .int .i64 0, .int .i64 0, .int .i64 0, .int .i64 0, .slice none 0 0, .slice none 0 0, .slice none 0 0]
    have hon := one_RPrep (G := Any) (w := w) (x := P) ⟨po, ps, pc, rfl, u1, u2, u3⟩
    go_upto_region 5 with (first
      | (refine wpList_load_mid rfl _ _ rfl bw (offp + i * 8) rfl [.int .i64 P.1, .int .i64 P.2.1.1, .int .i64 P.2.1.2, .int .i64 P.2.2.1.1, .int .i64 P.2.2.1.2.1, po, ps, pc] _ hrnp Tryz.underlying66 rfl (by kernel_rfl) ?_)
      | (refine wl_store rfl _ _ _ rfl wr.heap.size [.int .i64 P.1, .int .i64 P.2.1.1, .int .i64 P.2.1.2, .int .i64 P.2.2.1.1, .int .i64 P.2.2.1.2.1, po, ps, pc] rfl rfl _ _ hrow0 rfl (by kernel_rfl) hon ?_; intro w9 rP g9))
    have b9 : Below wr.heap.size wr w9 := (below_alloc wr (.cells ([.int .i64 0, .int .i64 0, .int .i64 0, .int .i64 0, .int .i64 0, .slice none 0 0, .slice none 0 0, .slice none 0 0] : List Value).toArray 66)).trans (grown_below g9 (by simp) (fun k hk => by cases hk; exact Nat.le_refl _))
    have rP := rP.out
    have hB9 := below_and hB (Nat.le_refl _) b9
    obtain ⟨cP, hcP⟩ : ∃ c, c = wr.heap.size := ⟨_, rfl⟩
    rw [← hcP] at rP ⊢
    clear hrow0 g9 hrnp hon
    clear hcP
    have r9 := (r1.below hB1).below b9
    have c3 := r9.cell (j := 3) rfl
    have c0 := rP.cell (j := 0) rfl
    have hst : PS.drop i = P :: PS.drop (i + 1) := List.drop_eq_getElem_cons hil ▸ by rw [(List.getElem?_eq_some_iff.1 hP).2]
    rw [hst] at hW
    have HW := (show Hid (_ = _) from hW)
    have hIP := isPrepC_any w9 [.int .i64 P.1, .int .i64 P.2.1.1, .int .i64 P.2.1.2, .int .i64 P.2.2.1.1, .int .i64 P.2.2.1.2.1, po, ps, pc] P x.1 n (mov_prep _ _ _ _ _ _ (⟨_, _, _, rfl, u1, u2, u3⟩ : RPrep Any w [.int .i64 P.1, .int .i64 P.2.1.1, .int .i64 P.2.1.2, .int .i64 P.2.2.1.1, .int .i64 P.2.2.1.2.1, po, ps, pc] P) hB9.size (Mv.below hB9)) (HQ.out P (List.mem_of_getElem? hP)) (HTB.out.below hB9)
    have hB19 := below_and hB1 (Nat.le_refl _) b9
    clear hst hP u1 u2 u3 hW hB hB1 b9
    have hWu : prepsW x.1 n low last (P :: PS.drop (i + 1)) = (decide (last < P.1) && decide (P.1 ≤ low + 16) && prepdL x.1 n P && prepsW x.1 n low P.1 (PS.drop (i + 1))) := rfl
    have HWU := (show Hid (_ = _) from hWu)
    clear hWu
    by_cases h1 : P.1 ≤ last
    case pos =>
      have d1 : decide (P.1 ≤ last) = true := by simpa using h1
      go_wp2_with fail
      go_ret
      exact ⟨by rw [HW.out, HWU.out, show decide (last < P.1) = false by simp; omega]; rfl, hB9⟩
    have d1 : decide (P.1 ≤ last) = false := by simpa using h1
    by_cases h2 : low + 16 < P.1
    case pos =>
      have d2 : decide (low + 16 < P.1) = true := by simpa using h2
      go_wp2_with fail
      go_ret
      exact ⟨by rw [HW.out, HWU.out, show decide (P.1 ≤ low + 16) = false by simp; omega]; simp, hB9⟩
    have d2 : decide (low + 16 < P.1) = false := by simp; omega
    cases hp : prepdL x.1 n P with
    | false =>
      rw [hp] at hIP
      go_wp2_with (first
        | (refine wl_load_w (by rfl) _ _ rfl cP rfl _ _ rP _ Tryz.underlying66 rfl (by kernel_rfl) ?_)
        | (refine wl_part_w (by rfl) _ _ rfl w.heap.size 0 rfl _ _ r9 [.int .i64 x.1.1, .int .i64 x.1.2] rfl _ Tryz.underlying23 rfl (by kernel_rfl) ?_)
        | (go_at_call 61; refine hIP.mono ?_; rintro e wx ⟨rfl, bx⟩))
      go_ret
      exact ⟨by rw [HW.out, HWU.out, hp]; simp, below_and hB9 (Nat.le_refl _) bx⟩
    | true =>
      rw [hp] at hIP
      go_wp2_with (first
        | (refine wl_load_w (by rfl) _ _ rfl cP rfl _ _ rP _ Tryz.underlying66 rfl (by kernel_rfl) ?_)
        | (refine wl_part_w (by rfl) _ _ rfl w.heap.size 0 rfl _ _ r9 [.int .i64 x.1.1, .int .i64 x.1.2] rfl _ Tryz.underlying23 rfl (by kernel_rfl) ?_)
        | (go_at_call 61; refine hIP.mono ?_; rintro e wx ⟨rfl, bx⟩; have cx0 := (rP.below bx).cell (j := 0) rfl))
      go_roundw
      case rel => exact ⟨i + 1, P.1, by omega, by go_num, rfl, by rw [HW.out, HWU.out, hp, show decide (last < P.1) = true by simp; omega, show decide (P.1 ≤ low + 16) = true by simp; omega]; rfl, below_and hB9 (Nat.le_refl _) bx, below_and hB19 (Nat.le_refl _) bx⟩
      case measure => simp [intOf]; omega
set_option maxRecDepth 10000 in
set_option maxHeartbeats 8000000 in
theorem rightC_any (w : World) (r : List Value) (x : PRep) (n : Int) (h : RRep Any w r x) (hq : okQ x) (hT : Tab w) :
    Calls Tryz.prog 8 #[.agg r.toArray, .int .i64 n] w fun e w' => e = .returned (.bool (rgtR n x)) ∧ Below w.heap.size w w' := by
  have hall := h
  obtain ⟨rd, rs, rp, rg, rfl, t1, t2, t3, t4⟩ := h
  obtain ⟨w1, hw1⟩ : ∃ u, u = w.alloc (.cells #[.int .i64 x.1.1, .int .i64 x.1.2, .int .i64 x.2.1, .int .i64 x.2.2.1, rd, rs, rp, rg] 28) := ⟨_, rfl⟩
  have r1 : Row w1 w.heap.size 28 [.int .i64 x.1.1, .int .i64 x.1.2, .int .i64 x.2.1, .int .i64 x.2.2.1, rd, rs, rp, rg] := by rw [hw1]; exact Row.new _ _ _
  have b1 : Below w.heap.size w w1 := by rw [hw1]; exact below_alloc _ _
  have hR1 := mov_rep _ _ _ _ _ _ hall b1.size (Mv.below b1)
  have hT1 := hT.below b1
  obtain ⟨w2, hw2⟩ : ∃ u, u = w1.alloc (.cells #[.int .i64 x.1.1, .int .i64 x.1.2, .int .i64 x.2.1, .int .i64 x.2.2.1, rd, rs, rp, rg] 28) := ⟨_, rfl⟩
  have b2 : Below w1.heap.size w1 w2 := by rw [hw2]; exact below_alloc _ _
  have p2 : Row w2 w1.heap.size 28 ([[.int .i64 x.1.1, .int .i64 x.1.2, .int .i64 x.2.1, .int .i64 x.2.2.1, rd, rs, rp, rg]] : List (List Value)).flatten := by rw [hw2]; exact Row.new _ _ _
  have hR2 := mov_rep _ _ _ _ _ _ hR1 b2.size (Mv.below b2)
  have hL : RL RRep 8 Any w2 (.slice (some ⟨w1.heap.size, 0, none⟩) 1 1) [x] := RL.row (rows := [[.int .i64 x.1.1, .int .i64 x.1.2, .int .i64 x.2.1, .int .i64 x.2.2.1, rd, rs, rp, rg]]) p2 (by simp) (show 0 < 1 by decide) (show 1 ≤ maxLen by decide) ⟨hR2, trivial⟩
  have hS : Calls Tryz.prog 31 #[.agg #[.int .i64 8, .int .i64 0, .int .i64 0, .int .i64 0, .int .i64 0, .int .i64 0, .int .i64 0, .int .i64 0, .int .i64 0, .int .i64 0, .slice none 0 0, .slice none 0 0, .int .i64 0, .int .i64 0, .slice none 0 0, .slice none 0 0, .slice none 0 0, .slice none 0 0, .slice none 0 0, .slice none 0 0, .slice none 0 0, .slice none 0 0, .slice (some ⟨w1.heap.size, 0, none⟩) 1 1], .int .i64 x.2.1] w2 fun e w' => e = .returned (.bool (seaQ (mR x) x.2.1)) ∧ Below w2.heap.size w2 w' := sealed_any w2 (mR x) (sR (.slice (some ⟨w1.heap.size, 0, none⟩) 1 1)) x.2.1 (sR_ok hL) (hT1.below b2)
  have r2 := r1.below b2
  have B2 := below_and b1 (Nat.le_refl _) b2
  have HST := (show Hid (∀ u, Below w2.heap.size w2 u → Calls Tryz.prog 32 #[.agg #[.int .i64 x.1.1, .int .i64 x.1.2, .int .i64 x.2.1, .int .i64 x.2.2.1, rd, rs, rp, rg], .int .i64 n] u fun e w' => e = .returned (.bool (stabL n x)) ∧ Below u.heap.size u w') from fun u hu => isStabC_any u _ x n (mov_rep _ _ _ _ _ _ hR2 hu.size (Mv.below hu)) (hT.below (below_and B2 (Nat.le_refl _) hu)))
  have HPR := (show Hid (stabL n x = true → ∀ u, Below w2.heap.size w2 u → Calls Tryz.prog 33 #[.agg #[.int .i64 x.1.1, .int .i64 x.1.2, .int .i64 x.2.1, .int .i64 x.2.2.1, rd, rs, rp, rg], .int .i64 n] u fun e w' => e = .returned (.bool (prepsW x.1 n x.2.2.1 x.2.2.1 x.2.2.2.2.2.1)) ∧ Below u.heap.size u w') from fun hs u hu => arePrepC_any u _ x n (mov_rep _ _ _ _ _ _ hR2 hu.size (Mv.below hu)) hq (stab_low hs) (hT.below (below_and B2 (Nat.le_refl _) hu)))
  have HRI := (show Hid (Calls Tryz.prog 30 #[.int .i64 n] w1 fun e w' => e = .returned (.bool (rgt n)) ∧ w' = w1) from Bb.right_any w1 n)
  have k2 := r1.cell (j := 2) rfl
  have k22 := r2.cell (j := 2) rfl
  have HR2 := (show Hid (∀ u, Below w2.heap.size w2 u → Row u w.heap.size 28 [.int .i64 x.1.1, .int .i64 x.1.2, .int .i64 x.2.1, .int .i64 x.2.2.1, rd, rs, rp, rg]) from fun u hu => r2.below hu)
  clear t1 t2 t3 t4 hall hR1 hR2 hL hT hT1 p2 hq
  unfold rgtR
  generalize seaQ (mR x) x.2.1 = sq at *
  generalize rgt n = rr at *
  generalize stabL n x = st at *
  generalize prepsW x.1 n x.2.2.1 x.2.2.1 x.2.2.2.2.2.1 = pw at *
  generalize x.2.1 = rep at *
  have HWW := (show Hid (w1.alloc (.cells #[.int .i64 x.1.1, .int .i64 x.1.2, .int .i64 rep, .int .i64 x.2.2.1, rd, rs, rp, rg] 28) = w2) from hw2.symm)
  rw [← HWW.out] at k22
  clear hw2
  cases rr with
  | false =>
    go_enter Tryz.func8, Tryz.ntmps8
    go_upto_region 1 with fail
    rw [← hw1]
    clear hw1
    go_wp2_with (go_at_call 30; refine HRI.out.mono ?_; rintro e w' ⟨rfl, h'⟩; rw [h'])
    go_ret
    exact ⟨by simp, b1⟩
  | true =>
    by_cases h0 : 0 ≤ rep
    case neg =>
      have d0 : decide (0 ≤ rep) = false := by simpa using h0
      go_enter Tryz.func8, Tryz.ntmps8
      go_upto_region 1 with fail
      rw [← hw1]
      clear hw1
      go_wp2_with (go_at_call 30; refine HRI.out.mono ?_; rintro e w' ⟨rfl, h'⟩; rw [h'])
      go_ret
      exact ⟨by simp [d0], b1⟩
    have d0 : decide (0 ≤ rep) = true := by simpa using h0
    by_cases h1 : rep < n
    case neg =>
      have d1 : decide (rep < n) = false := by simpa using h1
      go_enter Tryz.func8, Tryz.ntmps8
      go_upto_region 1 with fail
      rw [← hw1]
      clear hw1
      go_wp2_with (go_at_call 30; refine HRI.out.mono ?_; rintro e w' ⟨rfl, h'⟩; rw [h'])
      go_ret
      exact ⟨by simp [d1], b1⟩
    have d1 : decide (rep < n) = true := by simpa using h1
    go_enter Tryz.func8, Tryz.ntmps8
    go_upto_region 1 with fail
    rw [← hw1]
    clear hw1
    cases sq with
    | false =>
      go_wp2_with (first
        | (go_at_call 30; refine HRI.out.mono ?_; rintro e w' ⟨rfl, h'⟩; rw [h'])
        | (refine wl_load_w (by rfl) _ _ rfl w.heap.size rfl _ _ r1 _ Tryz.underlying28 rfl (by kernel_rfl) ?_)
        | (go_at_call 31; rw [HWW.out]; refine hS.mono ?_; rintro e w3 ⟨rfl, b3⟩))
      go_ret
      exact ⟨by simp, below_and B2 (Nat.le_refl _) b3⟩
    | true =>
      cases st with
      | false =>
        go_wp2_with (first
          | (go_at_call 30; refine HRI.out.mono ?_; rintro e w' ⟨rfl, h'⟩; rw [h'])
          | (go_at_call 31; rw [HWW.out]; refine hS.mono ?_; rintro e w3 ⟨rfl, b3⟩; have r3 := HR2.out w3 b3)
          | (go_at_call 32; refine (HST.out w3 b3).mono ?_; rintro e w4 ⟨rfl, b4⟩)
          | (refine wl_load_w (by rfl) _ _ rfl w.heap.size rfl _ _ r3 _ Tryz.underlying28 rfl (by kernel_rfl) ?_)
          | (refine wl_load_w (by rfl) _ _ rfl w.heap.size rfl _ _ r1 _ Tryz.underlying28 rfl (by kernel_rfl) ?_))
        go_ret
        exact ⟨by simp, below_and B2 (Nat.le_refl _) (below_and b3 (Nat.le_refl _) b4)⟩
      | true =>
        go_wp2_with (first
          | (go_at_call 30; refine HRI.out.mono ?_; rintro e w' ⟨rfl, h'⟩; rw [h'])
          | (go_at_call 31; rw [HWW.out]; refine hS.mono ?_; rintro e w3 ⟨rfl, b3⟩; have r3 := HR2.out w3 b3)
          | (go_at_call 32; refine (HST.out w3 b3).mono ?_; rintro e w4 ⟨rfl, b4⟩; have B4 := below_and b3 (Nat.le_refl _) b4; have r4 := HR2.out w4 B4)
          | (go_at_call 33; refine (HPR.out (by trivial) w4 B4).mono ?_; rintro e w5 ⟨rfl, b5⟩)
          | (refine wl_load_w (by rfl) _ _ rfl w.heap.size rfl _ _ r4 _ Tryz.underlying28 rfl (by kernel_rfl) ?_)
          | (refine wl_load_w (by rfl) _ _ rfl w.heap.size rfl _ _ r3 _ Tryz.underlying28 rfl (by kernel_rfl) ?_)
          | (refine wl_load_w (by rfl) _ _ rfl w.heap.size rfl _ _ r1 _ Tryz.underlying28 rfl (by kernel_rfl) ?_))
        go_ret
        exact ⟨by simp [d0, d1], below_and B2 (Nat.le_refl _) (below_and B4 (Nat.le_refl _) b5)⟩
end
section
open Go.ChangeShapes Go.WideShapes Go.ChangeAt Go.RowKit Oct
theorem open_aggD {P : Program} {w : World} {b0 : Nat} {r : Reach} {t : TypeId} {fs : Array Field} {k : Nat} (ht : P.underlying t = some (.struct fs)) (hct : P.cellsOf t = k) {v : Value} (hv : Value.okWide P w r b0 t v) : ∃ cs : List Value, v = .agg cs.toArray ∧ cs.length = k := by
  simp only [Value.okWide, ht] at hv
  obtain ⟨cs, rfl, hsz, _⟩ := hv
  exact ⟨cs.toList, by simp, by simpa [hct] using hsz⟩
theorem cells_repD : Tryz.prog.cellsOf 28 = 8 := by kernel_rfl
set_option maxRecDepth 10000 in
theorem open_repD {H : Type} {enc : TypeId × Value → H} {w : World} {base b0 : Nat} {r : Reach} {held : Bool} {v : Value} {d : DataW H} {p : List MemPlace} (hv : Value.okWide Tryz.prog w r b0 28 v) (h : DataW.Trod enc Tryz.prog w base (fun _ => true) held 28 v d p) :
    ∃ (q : List Value) (x : PRep), v = .agg q.toArray ∧ RRep Any w q x ∧ bR x ≤ Rows.uptoBulk d := by
  obtain ⟨cs, rfl, hl⟩ := open_aggD Tryz.underlying28 cells_repD hv
  obtain ⟨fuel, hf⟩ := h
  obtain ⟨y, h1, h2, h3⟩ := opn_rep fuel _ _ hf
  exact ⟨cs, y, rfl, by simpa [Value.cells] using h1, h2⟩
theorem okQ_of {x : PRep} (h : bR x ≤ 1050000) : okQ x := fun p hp => by
  have h1 := bS_memC (f := bP) hp
  simp only [bR, bL] at h
  simp only [bP, bQ, bT] at h1
  simp only [tot]
  omega
end
section
open Go.ChangeShapes Go.WideShapes Go.ChangeAt Go.RowKit Sha
theorem gTab : Tryz.prog.globalNamed "catenary/sha.constants" = some 1 := by kernel_rfl
theorem gTabType : (Tryz.prog.globals[1]?).map (·.type) = some 205 := by kernel_rfl
theorem cells45 : Tryz.prog.cellsOf 205 = 64 := by kernel_rfl
theorem cells34 : Tryz.prog.cellsOf 143 = 1 := by kernel_rfl
def kints : List Int := [1116352408, 1899447441, 3049323471, 3921009573, 961987163, 1508970993, 2453635748, 2870763221, 3624381080, 310598401, 607225278, 1426881987, 1925078388, 2162078206, 2614888103, 3248222580, 3835390401, 4022224774, 264347078, 604807628, 770255983, 1249150122, 1555081692, 1996064986, 2554220882, 2821834349, 2952996808, 3210313671, 3336571891, 3584528711, 113926993, 338241895, 666307205, 773529912, 1294757372, 1396182291, 1695183700, 1986661051, 2177026350, 2456956037, 2730485921, 2820302411, 3259730800, 3345764771, 3516065817, 3600352804, 4094571909, 275423344, 430227734, 506948616, 659060556, 883997877, 958139571, 1322822218, 1537002063, 1747873779, 1955562222, 2024104815, 2227730452, 2361852424, 2428436474, 2756734187, 3204031479, 3329325298]
theorem kints_at : ∀ t, t < 64 → kints.getD t 0 = wi (kk.getD t 0) := by decide +kernel
theorem tab_of {W : World} (h : laidMetH Tryz.prog [("catenary/sha.constants", Rows.laid_catenary_sha_constants)] W) : Tab W := by
  have t : Lib.TabIs Tryz.prog W "catenary/sha.constants" .u32 kints := Lib.tabIs_of_head (rest := []) gTab gTabType Tryz.underlying205 Tryz.underlying143 cells34 cells45 h
  intro j hj
  rw [t.cell gTab j hj, kints_at j hj]
/-- A world for the witness: the settled one, the table (block 0) holding what its initialiser lays. -/
noncomputable def laidWorld (os : Os) : World :=
  { World.holding Tryz.prog os ⟨#[], #[], []⟩ with heap := (World.holding Tryz.prog os ⟨#[], #[], []⟩).heap.modify 1 fun
      | .cells _ t frozen => .cells (kints.map (Value.int .u32)).toArray t frozen
      | o => o }
end
end Go.Proofs.YtgbfmccecnfooaaGreatDoor
