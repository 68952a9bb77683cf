/- The document's Right of layer 18. Written by mk20t.py. -/
import Derived.Test.YtgbfmccecnfooaaGreatDoorCRBT
import Derived.Test.YtgbfmccecnfooaaGreatDoorCRAV
import Derived.Test.YtgbfmccecnfooaaGreatDoorCRBS
import Derived.Test.YtgbfmccecnfooaaGreatDoorCRBU
import Derived.Test.YtgbfmccecnfooaaGreatDoorCRBV
import Derived.Test.YtgbfmccecnfooaaGreatDoorCRBK
set_option linter.unusedSimpArgs false
set_option linter.unusedVariables false
namespace Go.Proofs.YtgbfmccecnfooaaGreatDoor
open Go.RowKit Oct Bal
theorem cmp2_three (a b c d : Int) : cmp2 a b c d = -1 ∨ cmp2 a b c d = 0 ∨ cmp2 a b c d = 1 := by
  have cm3 : ∀ x y : Int, cm x y = -1 ∨ cm x y = 0 ∨ cm x y = 1 := fun x y => by
    unfold cm
    split
    · exact .inl rfl
    · split
      · exact .inr (.inr rfl)
      · exact .inr (.inl rfl)
  unfold cmp2
  split
  · exact cm3 _ _
  · exact cm3 _ _
/-- A test that fails tells that nothing is shown. -/
def Tst (c st : Bool) (Q : Prop) : Prop := (c = true → st = false) ∧ (c = false → Q)
theorem mR_sz {x : PRep} (h : bR x ≤ 1050000) : szM (mR x) :=
  ⟨⟨Nat.zero_le _, Nat.zero_le _⟩, ⟨Nat.zero_le _, Nat.zero_le _⟩, Nat.zero_le _, Nat.zero_le _, ⟨by simp [mR], fun y hy => by cases hy⟩, ⟨by simp [mR], fun y hy => by cases hy⟩, ⟨by simp [mR], fun y hy => by cases hy⟩, ⟨by simp [mR], fun y hy => by cases hy⟩, ⟨by simp [mR], fun y hy => by
    obtain rfl : y = x := by simpa [mR] using hy
    exact szR_cB (by omega)⟩⟩
theorem mR_bM {x : PRep} (h : bR x ≤ 1050000) : bM (mR x) ≤ 1060000 := by
  simp only [bM, mR, bQ, bT, bL, bS, qz, List.length_nil]
  omega
set_option maxRecDepth 10000 in
set_option maxHeartbeats 16000000 in
theorem refRightR_any (w : World) (r : List Value) (x : PRep) (n : Int) (h : RRep Any w r x) (hq : okQ x) (hbx : bR x ≤ 1050000) :
    Calls Tryz.prog 9 #[.agg r.toArray, .int .i64 n] w fun e w' => e = .returned (.bool (rgtR n x)) ∧ Below w.heap.size w w' := by
  have hall := h
  obtain ⟨rd, rs, rp, rg, rfl, t1, t2, t3, t4⟩ := h
  obtain ⟨ad, cd, rfl, _⟩ := t1.form
  obtain ⟨av, cv, rfl, _⟩ := t2.form
  obtain ⟨ap, cp, rfl, _⟩ := t3.form
  obtain ⟨w1, hw1⟩ : ∃ u, u = w.alloc (.cells #[.int .i64 x.1.1, .int .i64 x.1.2, .int .i64 x.2.1, .int .i64 x.2.2.1, .slice ad x.2.2.2.1.length cd, .slice av x.2.2.2.2.1.length cv, .slice ap x.2.2.2.2.2.1.length cp, rg] 28) := ⟨_, rfl⟩
  have r1 : Row w1 w.heap.size 28 [.int .i64 x.1.1, .int .i64 x.1.2, .int .i64 x.2.1, .int .i64 x.2.2.1, .slice ad x.2.2.2.1.length cd, .slice av x.2.2.2.2.1.length cv, .slice ap x.2.2.2.2.2.1.length cp, rg] := by rw [hw1]; exact Row.new _ _ _
  have b1 : Below w.heap.size w w1 := by rw [hw1]; exact below_alloc _ _
  have hR1 := mov_rep _ _ _ _ _ _ hall b1.size (Mv.below b1)
  obtain ⟨w2, hw2⟩ : ∃ u, u = w1.alloc (.cells #[.int .i64 x.1.1, .int .i64 x.1.2, .int .i64 x.2.1, .int .i64 x.2.2.1, .slice ad x.2.2.2.1.length cd, .slice av x.2.2.2.2.1.length cv, .slice ap x.2.2.2.2.2.1.length cp, rg] 28) := ⟨_, rfl⟩
  have b2 : Below w1.heap.size w1 w2 := by rw [hw2]; exact below_alloc _ _
  have p2 : Row w2 w1.heap.size 28 ([[.int .i64 x.1.1, .int .i64 x.1.2, .int .i64 x.2.1, .int .i64 x.2.2.1, .slice ad x.2.2.2.1.length cd, .slice av x.2.2.2.2.1.length cv, .slice ap x.2.2.2.2.2.1.length cp, rg]] : List (List Value)).flatten := by rw [hw2]; exact Row.new _ _ _
  have hR2 := mov_rep _ _ _ _ _ _ hR1 b2.size (Mv.below b2)
  have hL : RL RRep 8 Any w2 (.slice (some ⟨w1.heap.size, 0, none⟩) 1 1) [x] := RL.row (rows := [[.int .i64 x.1.1, .int .i64 x.1.2, .int .i64 x.2.1, .int .i64 x.2.2.1, .slice ad x.2.2.2.1.length cd, .slice av x.2.2.2.2.1.length cv, .slice ap x.2.2.2.2.2.1.length cp, rg]]) p2 (by simp) (show 0 < 1 by decide) (show 1 ≤ maxLen by decide) ⟨hR2, trivial⟩
  have hok := sR_ok hL
  have B2 := below_and b1 (Nat.le_refl _) b2
  have HSE := (show Hid (∀ u, Below w2.heap.size w2 u → Calls Tryz.prog 35 #[.agg #[.int .i64 8, .int .i64 0, .int .i64 0, .int .i64 0, .int .i64 0, .int .i64 0, .int .i64 0, .int .i64 0, .int .i64 0, .int .i64 0, .slice none 0 0, .slice none 0 0, .int .i64 0, .int .i64 0, .slice none 0 0, .slice none 0 0, .slice none 0 0, .slice none 0 0, .slice none 0 0, .slice none 0 0, .slice none 0 0, .slice none 0 0, .slice (some ⟨w1.heap.size, 0, none⟩) 1 1], .int .i64 x.2.1] u fun e w' => e = .returned (.bool (seaQ (mR x) x.2.1)) ∧ Below u.heap.size u w') from fun u hu => refSealed_any u (mR x) (sR (.slice (some ⟨w1.heap.size, 0, none⟩) 1 1)) x.2.1 (hok.below hu) (mR_sz hbx) (mR_bM hbx))
  have HRI := (show Hid (Calls Tryz.prog 34 #[.int .i64 n] w1 fun e w' => e = .returned (.bool (rgt n)) ∧ w' = w1) from Bb.refRight_any w1 n)
  have HCT := (show Hid (x.2.2.2.1.length = 32 → ∀ u, Below w2.heap.size w2 u → Calls Tryz.prog 36 #[.int .i64 10, .agg #[.int .i64 0, .int .i64 0], .int .i64 x.2.2.1, .slice ad x.2.2.2.1.length cd, .slice av x.2.2.2.2.1.length cv, .int .i64 n] u fun e w' => e = .returned (.bool (certL (rightV 10 0 0 x.2.2.1 x.2.2.2.1) n x.2.2.2.2.1)) ∧ Below u.heap.size u w') from fun h32 u hu => refCert_any u 10 0 0 x.2.2.1 _ _ n _ _ (t1.mv (Mv.below (below_and B2 (Nat.le_refl _) hu))).1 (by omega) (t2.mv mov_vote (below_and B2 (Nat.le_refl _) hu).size (Mv.below (below_and B2 (Nat.le_refl _) hu))))
  have hbz : ∀ u, (Instr.build 23 #[]).run Tryz.prog u = .ok (.agg #[.int .i64 0, .int .i64 0]) u := fun u => by kernel_rfl
  have hon : ∀ q ∈ ([.int .i64 8, .int .i64 0, .int .i64 0, .int .i64 0, .int .i64 0, .int .i64 0, .int .i64 0, .int .i64 0, .int .i64 0, .int .i64 0, .slice none 0 0, .slice none 0 0, .int .i64 0, .int .i64 0, .slice none 0 0, .slice none 0 0, .slice none 0 0, .slice none 0 0, .slice none 0 0, .slice none 0 0, .slice none 0 0, .slice none 0 0, .slice (some ⟨w1.heap.size, 0, none⟩) 1 1] : List Value), q.oneCell' = true := by intro q hq; simp only [List.mem_cons, List.not_mem_nil, or_false] at hq; rcases hq with rfl | rfl | rfl | rfl | rfl | rfl | rfl | rfl | rfl | rfl | rfl | rfl | rfl | rfl | rfl | rfl | rfl | rfl | rfl | rfl | rfl | rfl | rfl <;> rfl
  have hlp : (x.2.2.2.2.2.1.length : Int) ≤ 9223372036854775807 := by
    by_cases h0 : 0 < x.2.2.2.2.2.1.length
    · obtain ⟨_, _, _, _, h1, h2, _⟩ := t3.at h0
      unfold maxLen at h2
      omega
    · omega
  have HT := (show Hid (RL RPrep 8 Any w (.slice ap x.2.2.2.2.2.1.length cp) x.2.2.2.2.2.1) from t3)
  have HQ := (show Hid (∀ p ∈ x.2.2.2.2.2.1, tot [p.2.2.1.2.2.1, p.2.2.1.2.2.2] ≤ 2000000) from hq)
  have r2 := r1.below b2
  clear t1 t2 t3 t4 hall hR1 hR2 hL hok p2 hq hbx
  have hU : rgtR n x = (rgt n && decide (0 ≤ x.2.1) && decide (x.2.1 < n) && seaQ (mR x) x.2.1 && stabL n x && prepsW x.1 n x.2.2.1 x.2.2.1 x.2.2.2.2.2.1) := rfl
  unfold stabL at hU
  rw [hU]
  clear hU
  generalize seaQ (mR x) x.2.1 = sq at *
  generalize certL (rightV 10 0 0 x.2.2.1 x.2.2.2.1) n x.2.2.2.2.1 = ct at *
  generalize x.2.2.2.1.length = dl at *
  generalize x.2.2.2.2.1.length = vl at *
  generalize x.2.2.2.2.2.1 = PS at *
  generalize x.2.2.1 = low at *
  generalize x.2.1 = rep at *
  obtain ⟨st, hst0⟩ : ∃ st : Bool, st = (if low = 0 then decide (dl = 0) && decide (vl = 0) else decide (4 ≤ low) && decide (low ≤ 1000000) && decide (Int.tmod low 4 = 0) && decide (dl = 32) && ct) := ⟨_, rfl⟩
  rw [← hst0]
  have HST := (show Hid (st = (if low = 0 then decide (dl = 0) && decide (vl = 0) else decide (4 ≤ low) && decide (low ≤ 1000000) && decide (Int.tmod low 4 = 0) && decide (dl = 32) && ct)) from hst0)
  clear hst0
  have HWW := (show Hid (w1.alloc (.cells #[.int .i64 x.1.1, .int .i64 x.1.2, .int .i64 rep, .int .i64 low, .slice ad dl cd, .slice av vl cv, .slice ap PS.length cp, rg] 28) = w2) from hw2.symm)
  have e2 : w2.heap.size = w1.heap.size + 1 := by rw [← HWW.out]; simp
  clear hw2
  have k2 := r1.cell (j := 2) rfl
  cases hrr : rgt n with
  | false =>
    rw [hrr] at HRI
    go_enter Tryz.func9, Tryz.ntmps9
    go_upto_region 1 with fail
    rw [← hw1]
    clear hw1
    go_wp2_with (go_at_call 34; refine HRI.out.mono ?_; rintro e w' ⟨rfl, h'⟩; rw [h'])
    go_ret
    exact ⟨by simp, b1⟩
  | true =>
    rw [hrr] at HRI
    have hn := rgt_iff.1 hrr
    have hn1 : wrap64 (n - 1) = n - 1 := IntWalk.wrap64_in _ ⟨by omega, by omega⟩
    clear hrr
    by_cases h0 : rep < 0
    case pos =>
      have d0 : decide (rep < 0) = true := by simpa using h0
      go_enter Tryz.func9, Tryz.ntmps9
      go_upto_region 1 with fail
      rw [← hw1]
      clear hw1
      go_wp2_with (go_at_call 34; refine HRI.out.mono ?_; rintro e w' ⟨rfl, h'⟩; rw [h'])
      go_ret
      exact ⟨by rw [show decide (0 ≤ rep) = false by simp; omega]; simp, b1⟩
    have d0 : decide (rep < 0) = false := by simpa using h0
    by_cases h1 : n - 1 < rep
    case pos =>
      have d1 : decide (n - 1 < rep) = true := by simpa using h1
      go_enter Tryz.func9, Tryz.ntmps9
      go_upto_region 1 with fail
      rw [← hw1]
      clear hw1
      go_wp2_with (go_at_call 34; refine HRI.out.mono ?_; rintro e w' ⟨rfl, h'⟩; rw [h'])
      go_ret
      exact ⟨by rw [show decide (rep < n) = false by simp; omega]; simp, b1⟩
    have d1 : decide (n - 1 < rep) = false := by simpa using h1
    rw [show decide (0 ≤ rep) = true by simp; omega, show decide (rep < n) = true by simp; omega]
    have hrowM := Row.new w2 72 [.int .i64 0, .int .i64 0, .int .i64 0, .int .i64 0, .int .i64 0, .int .i64 0, .int .i64 0, .int .i64 0, .int .i64 0, .int .i64 0, .slice none 0 0, .slice none 0 0, .int .i64 0, .int .i64 0, .slice none 0 0, .slice none 0 0, .slice none 0 0, .slice none 0 0, .slice none 0 0, .slice none 0 0, .slice none 0 0, .slice none 0 0, .slice none 0 0]
    rw [e2] at hrowM
    have HE2 := (show Hid (w2.heap.size = w1.heap.size + 1) from e2)
    clear e2
    go_enter Tryz.func9, Tryz.ntmps9
    go_upto_region 1 with fail
    rw [← hw1]
    clear hw1
    go_upto_region 4 with (first
      | (go_at_call 34; refine HRI.out.mono ?_; rintro e w' ⟨rfl, h'⟩; rw [h'])
      | (refine wl_load_w (by rfl) _ _ rfl w.heap.size rfl _ _ r1 _ Tryz.underlying28 rfl (by kernel_rfl) ?_)
      | (rw [HWW.out]; refine wl_store rfl _ _ _ rfl (w1.heap.size + 1) [.int .i64 8, .int .i64 0, .int .i64 0, .int .i64 0, .int .i64 0, .int .i64 0, .int .i64 0, .int .i64 0, .int .i64 0, .int .i64 0, .slice none 0 0, .slice none 0 0, .int .i64 0, .int .i64 0, .slice none 0 0, .slice none 0 0, .slice none 0 0, .slice none 0 0, .slice none 0 0, .slice none 0 0, .slice none 0 0, .slice none 0 0, .slice (some ⟨w1.heap.size, 0, none⟩) 1 1] rfl rfl _ _ hrowM rfl (by kernel_rfl) hon ?_; intro w3 rM g3))
    have b3 : Below w2.heap.size w2 w3 := (below_alloc w2 (.cells ([.int .i64 0, .int .i64 0, .int .i64 0, .int .i64 0, .int .i64 0, .int .i64 0, .int .i64 0, .int .i64 0, .int .i64 0, .int .i64 0, .slice none 0 0, .slice none 0 0, .int .i64 0, .int .i64 0, .slice none 0 0, .slice none 0 0, .slice none 0 0, .slice none 0 0, .slice none 0 0, .slice none 0 0, .slice none 0 0, .slice none 0 0, .slice none 0 0] : List Value).toArray 72)).trans (grown_below g3 (by simp) (fun k hk => by cases hk; exact Nat.le_of_eq HE2.out))
    have rM := rM.out
    have r3 := r2.below b3
    have k23 := r3.cell (j := 2) rfl
    clear hrowM g3 k2
    have hSE := HSE.out w3 b3
    have HX := (show Hid (∀ u, Below w3.heap.size w3 u → Row u w.heap.size 28 [.int .i64 x.1.1, .int .i64 x.1.2, .int .i64 rep, .int .i64 low, .slice ad dl cd, .slice av vl cv, .slice ap PS.length cp, rg]) from fun u hu => r3.below hu)
    have HCT3 := (show Hid (dl = 32 → ∀ u, Below w3.heap.size w3 u → _) from fun h u hu => HCT.out h u (below_and b3 (Nat.le_refl _) hu))
    have B3 := below_and B2 (Nat.le_refl _) b3
    clear HSE HCT r3
    cases sq with
    | false =>
      go_wp2_with (first
        | (refine wl_load_w (by rfl) _ _ rfl (w1.heap.size + 1) rfl _ _ rM _ Tryz.underlying72 rfl (by kernel_rfl) ?_)
        | (go_at_call 35; refine hSE.mono ?_; rintro e w4 ⟨rfl, b4⟩))
      go_ret
      exact ⟨by simp, below_and B3 (Nat.le_refl _) b4⟩
    | true =>
      go_upto_region 6 with (first
        | (refine wl_load_w (by rfl) _ _ rfl (w1.heap.size + 1) rfl _ _ rM _ Tryz.underlying72 rfl (by kernel_rfl) ?_)
        | (go_at_call 35; refine hSE.mono ?_; rintro e w4 ⟨rfl, b4⟩))
      have rX := HX.out w4 b4
      have k3 := rX.cell (j := 3) rfl
      have k4 := rX.cell (j := 4) rfl
      have k5 := rX.cell (j := 5) rfl
      have k6 := rX.cell (j := 6) rfl
      have B4 := below_and B3 (Nat.le_refl _) b4
      have HX4 := (show Hid (∀ u, Below w4.heap.size w4 u → Row u w.heap.size 28 [.int .i64 x.1.1, .int .i64 x.1.2, .int .i64 rep, .int .i64 low, .slice ad dl cd, .slice av vl cv, .slice ap PS.length cp, rg]) from fun u hu => rX.below hu)
      have HCT4 := (show Hid (dl = 32 → ∀ u, Below w4.heap.size w4 u → _) from fun h u hu => HCT3.out h u (below_and b4 (Nat.le_refl _) hu))
      clear hSE HX HCT3 rM k23
      go_cut [45] from 46 (fun s45 wx => ∃ c : Bool, s45 = .bool c ∧ Below w4.heap.size w4 wx ∧ Tst c st (low = 0 → dl = 0 ∧ vl = 0))
      case first =>
        by_cases h0 : low = 0
        · subst h0
          by_cases hd : dl = 0
          · subst hd
            by_cases hv : vl = 0
            · subst hv
              go_wp2_with fail
              go_meet
              case rel => exact ⟨false, rfl, Below.refl _ _, ⟨fun e => (by cases e), fun _ => (by first | trivial | simp | exact fun _ => ⟨rfl, rfl⟩)⟩⟩
            · have d2 : ((vl : Int) != 0) = true := by simp; omega
              go_wp2_with fail
              go_meet
              case rel => exact ⟨true, rfl, Below.refl _ _, ⟨fun _ => (by rw [HST.out]; simp [hv]), fun e => (by cases e)⟩⟩
          · have d1 : ((dl : Int) != 0) = true := by simp; omega
            go_wp2_with fail
            go_meet
            case rel => exact ⟨true, rfl, Below.refl _ _, ⟨fun _ => (by rw [HST.out]; simp [hd]), fun e => (by cases e)⟩⟩
        have d0 : (low == 0) = false := by simpa using h0
        have H0 := (show Hid (¬ low = 0) from h0)
        go_wp2_with fail
        go_meet
        case rel => exact ⟨false, rfl, Below.refl _ _, ⟨fun e => (by cases e), fun _ e => absurd e H0.out⟩⟩
      case rest =>
        obtain ⟨c, rfl, bq, h1, h2⟩ := hcut
        have H1 := (show Hid (c = true → st = false) from h1)
        have H2 := (show Hid (c = false → low = 0 → dl = 0 ∧ vl = 0) from h2)
        clear h1 h2 k3 k4 k5 k6
        obtain ⟨wq, hwq⟩ : ∃ u : World, u = wc := ⟨_, rfl⟩
        subst hwq
        cases c with
        | true =>
          have hs := H1.out rfl
          subst hs
          clear H1 H2
          go_wp2_with fail
          go_ret
          exact ⟨by simp, below_and B4 (Nat.le_refl _) bq⟩
        | false =>
        have rX := HX4.out wq bq
        have k3 := rX.cell (j := 3) rfl
        have k4 := rX.cell (j := 4) rfl
        have k5 := rX.cell (j := 5) rfl
        go_upto_region 8 with fail
        go_cut [82] from 83 (fun s82 wx => ∃ c : Bool, s82 = .bool c ∧ Below w4.heap.size w4 wx ∧ Tst c st (st = true ∧ 0 ≤ low ∧ low ≤ 1000000))
        case first =>
          by_cases h0 : low = 0
          · obtain ⟨e1, e2⟩ := H2.out rfl h0
            subst h0
            subst e1
            subst e2
            go_wp2_with fail
            go_meet
            case rel => exact ⟨false, rfl, bq, ⟨fun e => (by cases e), fun _ => ⟨by rw [HST.out]; simp, by omega, by omega⟩⟩⟩
          have d0 : (low == 0) = false := by simpa using h0
          have d0n : (low != 0) = true := by simpa using h0
          have H0 := (show Hid (¬ low = 0) from h0)
          by_cases h4 : low < 4
          case pos =>
            have d1 : decide (low < 4) = true := by simpa using h4
            have H4 := (show Hid (low < 4) from h4)
            go_wp2_with fail
            go_meet
            case rel => exact ⟨true, rfl, bq, ⟨fun _ => (by rw [HST.out, if_neg H0.out, show decide (4 ≤ low) = false by have := H4.out; simp; omega]; simp), fun e => (by cases e)⟩⟩
          have d1 : decide (low < 4) = false := by simpa using h4
          by_cases hM : 1000000 < low
          case pos =>
            have d2 : decide (1000000 < low) = true := by simpa using hM
            have H4 := (show Hid (1000000 < low) from hM)
            go_wp2_with fail
            go_meet
            case rel => exact ⟨true, rfl, bq, ⟨fun _ => (by rw [HST.out, if_neg H0.out, show decide (low ≤ 1000000) = false by have := H4.out; simp; omega]; simp), fun e => (by cases e)⟩⟩
          have d2 : decide (1000000 < low) = false := by simpa using hM
          have htm : Int.tmod low 4 = low % 4 := Int.tmod_eq_emod_of_nonneg (by omega)
          have HTM := (show Hid (Int.tmod low 4 = low % 4) from htm)
          have hwr : wrap64 (low % 4) = low % 4 := IntWalk.wrap64_in _ ⟨by omega, by omega⟩
          by_cases hr : low % 4 = 0
          case neg =>
            have d3 : (low % 4 != 0) = true := by simpa using hr
            have H4 := (show Hid (¬ low % 4 = 0) from hr)
            go_wp2_with fail
            go_meet
            case rel => exact ⟨true, rfl, bq, ⟨fun _ => (by rw [HST.out, if_neg H0.out, HTM.out]; simp [H4.out]), fun e => (by cases e)⟩⟩
          have d3 : (low % 4 != 0) = false := by simpa using hr
          have HR4 := (show Hid (low % 4 = 0) from hr)
          by_cases hl : dl = 32
          case neg =>
            have d4 : ((dl : Int) != 32) = true := by simp; omega
            go_wp2_with fail
            go_meet
            case rel => exact ⟨true, rfl, bq, ⟨fun _ => (by rw [HST.out, if_neg H0.out]; simp [hl]), fun e => (by cases e)⟩⟩
          subst hl
          have hCT := HCT4.out rfl wq bq
          have HLW := (show Hid (4 ≤ low ∧ low ≤ 1000000) from ⟨by omega, by omega⟩)
          cases ct with
          | false =>
            go_wp2_with (go_at_call 36; refine hCT.mono ?_; rintro e w5 ⟨rfl, b5⟩)
            go_meet
            case rel => exact ⟨true, rfl, below_and bq (Nat.le_refl _) b5, ⟨fun _ => (by rw [HST.out, if_neg H0.out]; simp), fun e => (by cases e)⟩⟩
          | true =>
            go_wp2_with (go_at_call 36; refine hCT.mono ?_; rintro e w5 ⟨rfl, b5⟩)
            go_meet
            case rel => exact ⟨false, rfl, below_and bq (Nat.le_refl _) b5, ⟨fun e => (by cases e), fun _ => ⟨by rw [HST.out, if_neg H0.out, HTM.out]; simp [HR4.out, HLW.out.1, HLW.out.2], by have := HLW.out.1; omega, HLW.out.2⟩⟩⟩
        case rest =>
        obtain ⟨c, rfl, bc, h1, h2⟩ := hcut
        have H1 := (show Hid (c = true → st = false) from h1)
        have H3 := (show Hid (c = false → st = true ∧ 0 ≤ low ∧ low ≤ 1000000) from h2)
        clear h1 h2 k3 k4 k5 rX
        cases c with
        | true =>
          have hs := H1.out rfl
          subst hs
          clear H1 H2 H3
          go_wp2_with fail
          go_ret
          exact ⟨by simp, below_and B4 (Nat.le_refl _) bc⟩
        | false =>
        obtain ⟨hst, hlow⟩ := H3.out rfl
        subst hst
        have rX := HX4.out wc bc
        have Bc := below_and B4 (Nat.le_refl _) bc
        have k6 := rX.cell (j := 6) rfl
        have hw16 : wrap64 (low + 16) = low + 16 := IntWalk.wrap64_in _ ⟨by omega, by omega⟩
        have hwi16 : IntKind.i64.wrap (low + 16) = low + 16 := by rw [IntKind.wrap_i64]; omega
        clear HST HX4 B4 bc H1 H2 H3
        obtain ⟨wb, hwb⟩ : ∃ u : World, u = wc := ⟨_, rfl⟩
        subst hwb
        have HXB := (show Hid (∀ u, Below wb.heap.size wb u → Row u w.heap.size 28 [.int .i64 x.1.1, .int .i64 x.1.2, .int .i64 rep, .int .i64 low, .slice ad dl cd, .slice av vl cv, .slice ap PS.length cp, rg]) from fun u hu => rX.below hu)
        go_wp2_with fail
        go_loopw [86] (fun j wr => ∃ (i : Nat) (last : Int), i ≤ PS.length ∧ j = .int .i64 i ∧ (i = 0 ∧ last = low ∨ ∃ m Q, i = m + 1 ∧ PS[m]? = some Q ∧ last = Q.1) ∧ low ≤ last ∧ prepsW x.1 n low low PS = prepsW x.1 n low last (PS.drop i) ∧ Below w.heap.size w wr ∧ Below wb.heap.size wb wr) (fun j _ => PS.length - (intOf j).toNat)
        case atStart => exact ⟨0, low, by omega, rfl, .inl ⟨rfl, rfl⟩, Int.le_refl _, rfl, Bc, Below.refl _ _⟩
        case round =>
          clear rX k6 Bc
          obtain ⟨i, last, hi, rfl, hlast, hll, hW, hB, hB1⟩ := hrel
          by_cases hil : i < PS.length
          case neg =>
            rw [List.drop_of_length_le (by omega)] at hW
            have HW := (show Hid (_ = _) from hW)
            clear hW hlast
            go_wp2_with fail
            go_ret
            exact ⟨by rw [HW.out]; rfl, hB⟩
          obtain ⟨P, hP⟩ : ∃ P, PS[i]? = some P := ⟨_, List.getElem?_eq_getElem hil⟩
          obtain ⟨bw, offp, capp, hve, _, _, _, hbw, hat⟩ := (HT.out).at (by omega)
          obtain ⟨rww, _, hrnp, po, ps, pc, rfl, u1, u2, u3⟩ := hat i _ hP
          injection hve with hv1 hv2 hv3
          subst hv1 hv3
          have HATQ := (show Hid (∀ (i : Nat) (a : PPrep), PS[i]? = some a → ∃ r, r.length = 8 ∧ w.rangeAt bw (offp + i * 8) r ∧ RPrep Any w r a) from hat)
          clear hv2 hat
          have hrnp := rangeAt_block hrnp (hB.block bw hbw)
          have hrow0 := Row.new wr 66 [.int .i64 0, .int .i64 0, .int .i64 0, .int .i64 0, .int .i64 0, .slice none 0 0, .slice none 0 0, .slice none 0 0]
          have hon := one_RPrep (G := Any) (w := w) (x := P) ⟨po, ps, pc, rfl, u1, u2, u3⟩
          go_upto_region 13 with (first
            | (refine wpList_load_mid rfl _ _ rfl bw (offp + i * 8) rfl [.int .i64 P.1, .int .i64 P.2.1.1, .int .i64 P.2.1.2, .int .i64 P.2.2.1.1, .int .i64 P.2.2.1.2.1, po, ps, pc] _ hrnp Tryz.underlying66 rfl (by kernel_rfl) ?_)
            | (refine wl_store rfl _ _ _ rfl wr.heap.size [.int .i64 P.1, .int .i64 P.2.1.1, .int .i64 P.2.1.2, .int .i64 P.2.2.1.1, .int .i64 P.2.2.1.2.1, po, ps, pc] rfl rfl _ _ hrow0 rfl (by kernel_rfl) hon ?_; intro w9 rP g9))
          have b9 : Below wr.heap.size wr w9 := (below_alloc wr (.cells ([.int .i64 0, .int .i64 0, .int .i64 0, .int .i64 0, .int .i64 0, .slice none 0 0, .slice none 0 0, .slice none 0 0] : List Value).toArray 66)).trans (grown_below g9 (by simp) (fun k hk => by cases hk; exact Nat.le_refl _))
          have rP := rP.out
          have hB9 := below_and hB (Nat.le_refl _) b9
          obtain ⟨cP, hcP⟩ : ∃ c, c = wr.heap.size := ⟨_, rfl⟩
          rw [← hcP] at rP ⊢
          clear hrow0 g9 hrnp hon
          clear hcP
          have hst : PS.drop i = P :: PS.drop (i + 1) := List.drop_eq_getElem_cons hil ▸ by rw [(List.getElem?_eq_some_iff.1 hP).2]
          rw [hst] at hW
          have HW := (show Hid (_ = _) from hW)
          have HP := (show Hid (PS[i]? = some P) from hP)
          have HB19 := (show Hid (Below wb.heap.size wb w9) from below_and hB1 (Nat.le_refl _) b9)
          have HRP := (show Hid (RReq Any w [.int .i64 P.2.2.1.1, .int .i64 P.2.2.1.2.1, po, ps] P.2.2.1 ∧ RL RVote 2 Any w pc P.2.2.2) from ⟨⟨_, _, rfl, u1, u2⟩, u3⟩)
          have HZP := (show Hid (tot [P.2.2.1.2.2.1, P.2.2.1.2.2.2] ≤ 2000000) from HQ.out P (List.mem_of_getElem? hP))
          have hWu : prepsW x.1 n low last (P :: PS.drop (i + 1)) = (decide (last < P.1) && decide (P.1 ≤ low + 16) && prepdL x.1 n P && prepsW x.1 n low P.1 (PS.drop (i + 1))) := rfl
          have HWU := (show Hid (_ = _) from hWu)
          have HC := (show Hid (∀ u, Below w9.heap.size w9 u → Row u cP 66 [.int .i64 P.1, .int .i64 P.2.1.1, .int .i64 P.2.1.2, .int .i64 P.2.2.1.1, .int .i64 P.2.2.1.2.1, po, ps, pc] ∧ Row u w.heap.size 28 [.int .i64 x.1.1, .int .i64 x.1.2, .int .i64 rep, .int .i64 low, .slice ad dl cd, .slice av vl cv, .slice (some ⟨bw, offp, none⟩) PS.length cp, rg] ∧ True) from fun u hu => ⟨rP.below hu, HXB.out u (below_and HB19.out (Nat.le_refl _) hu), trivial⟩)
          have B0 : Below w9.heap.size w9 w9.drew := ⟨rfl, rfl, rfl, Nat.le_refl _, fun _ _ => rfl⟩
          have HC0 := (show Hid True from trivial)
          clear hst hP u1 u2 u3 hW hB hB1 hWu b9
          obtain ⟨gd, hgd⟩ : ∃ gd : Bool, gd = (decide (last < P.1) && decide (P.1 ≤ low + 16)) := ⟨_, rfl⟩
          have HGD := (show Hid (gd = (decide (last < P.1) && decide (P.1 ≤ low + 16))) from hgd)
          have HWU1 := (show Hid (prepsW x.1 n low last (P :: PS.drop (i + 1)) = (gd && prepdL x.1 n P && prepsW x.1 n low P.1 (PS.drop (i + 1)))) by show _ = _; rw [hgd]; exact HWU.out)
          have HLA := (show Hid (low ≤ last) from hll)
          clear hgd HWU
          try go_simp
          go_cut [86, 119] from 86 to 151 (fun s86 s119 wx => s86 = .int .i64 i ∧ ∃ c : Bool, s119 = .bool c ∧ Below w9.heap.size w9 wx ∧ Tst c gd (gd = true))
          case first =>
            rcases hlast with ⟨rfl, hl0⟩ | ⟨m, Q, rfl, hQ, hl0⟩
            · have hl0 := hl0.symm
              subst hl0
              have HPV := (show Hid True from trivial)
              try go_simp
              refine wp_region_held_drew (S := fun u => Below w9.heap.size w9 u) (by kernel_rfl) B0 (fun hHeld => ?_)
              clear hHeld
              refine wpAnyH_take (i := 0) (v := .int .i64 0) rfl (by kernel_rfl) (by kernel_rfl) (by kernel_rfl) (fun _ _ _ h => h) (Or.inl ⟨by kernel_rfl, fun u hSu => by go_simp⟩) B0 ?_
              simp only [Act.put, List.setIfInBounds_toArray, List.set_cons_zero, List.set_cons_succ]
              refine wpAnyH_take (i := 1) (v := .bool false) rfl (by kernel_rfl) (by kernel_rfl) (by kernel_rfl) (fun _ _ _ h => h) (Or.inl ⟨by kernel_rfl, fun u hSu => by go_simp⟩) B0 ?_
              simp only [Act.put, List.setIfInBounds_toArray, List.set_cons_zero, List.set_cons_succ]
              refine wpAnyH_take (i := 2) (v := .bool false) rfl (by kernel_rfl) (by kernel_rfl) (by kernel_rfl) (fun _ _ _ h => h) (Or.inl ⟨by kernel_rfl, fun u hSu => by go_simp⟩) B0 ?_
              simp only [Act.put, List.setIfInBounds_toArray, List.set_cons_zero, List.set_cons_succ]
              refine wpAnyH_take (i := 3) (v := undef) rfl (by kernel_rfl) (by kernel_rfl) (by kernel_rfl) (fun _ _ _ h => h) (Or.inr ⟨by kernel_rfl, rfl⟩) B0 ?_
              simp only [Act.put, List.setIfInBounds_toArray, List.set_cons_zero, List.set_cons_succ]
              refine wpAnyH_take (i := 4) (v := undef) rfl (by kernel_rfl) (by kernel_rfl) (by kernel_rfl) (fun _ _ _ h => h) (Or.inr ⟨by kernel_rfl, rfl⟩) B0 ?_
              simp only [Act.put, List.setIfInBounds_toArray, List.set_cons_zero, List.set_cons_succ]
              refine wpAnyH_take (i := 5) (v := undef) rfl (by kernel_rfl) (by kernel_rfl) (by kernel_rfl) (fun _ _ _ h => h) (Or.inr ⟨by kernel_rfl, rfl⟩) B0 ?_
              simp only [Act.put, List.setIfInBounds_toArray, List.set_cons_zero, List.set_cons_succ]
              refine wpAnyH_take (i := 6) (v := undef) rfl (by kernel_rfl) (by kernel_rfl) (by kernel_rfl) (fun _ _ _ h => h) (Or.inr ⟨by kernel_rfl, rfl⟩) B0 ?_
              simp only [Act.put, List.setIfInBounds_toArray, List.set_cons_zero, List.set_cons_succ]
              refine wpAnyH_take (i := 7) (v := undef) rfl (by kernel_rfl) (by kernel_rfl) (by kernel_rfl) (fun _ _ _ h => h) (Or.inr ⟨by kernel_rfl, rfl⟩) B0 ?_
              simp only [Act.put, List.setIfInBounds_toArray, List.set_cons_zero, List.set_cons_succ]
              refine wpAnyH_take (i := 8) (v := undef) rfl (by kernel_rfl) (by kernel_rfl) (by kernel_rfl) (fun _ _ _ h => h) (Or.inr ⟨by kernel_rfl, rfl⟩) B0 ?_
              simp only [Act.put, List.setIfInBounds_toArray, List.set_cons_zero, List.set_cons_succ]
              refine wpAnyH_take (i := 9) (v := undef) rfl (by kernel_rfl) (by kernel_rfl) (by kernel_rfl) (fun _ _ _ h => h) (Or.inr ⟨by kernel_rfl, rfl⟩) B0 ?_
              simp only [Act.put, List.setIfInBounds_toArray, List.set_cons_zero, List.set_cons_succ]
              refine wpAnyH_take (i := 10) (v := undef) rfl (by kernel_rfl) (by kernel_rfl) (by kernel_rfl) (fun _ _ _ h => h) (Or.inr ⟨by kernel_rfl, rfl⟩) B0 ?_
              simp only [Act.put, List.setIfInBounds_toArray, List.set_cons_zero, List.set_cons_succ]
              refine wpAnyH_take (i := 11) (v := undef) rfl (by kernel_rfl) (by kernel_rfl) (by kernel_rfl) (fun _ _ _ h => h) (Or.inr ⟨by kernel_rfl, rfl⟩) B0 ?_
              simp only [Act.put, List.setIfInBounds_toArray, List.set_cons_zero, List.set_cons_succ]
              refine wpAnyH_take (i := 12) (v := undef) rfl (by kernel_rfl) (by kernel_rfl) (by kernel_rfl) (fun _ _ _ h => h) (Or.inr ⟨by kernel_rfl, rfl⟩) B0 ?_
              simp only [Act.put, List.setIfInBounds_toArray, List.set_cons_zero, List.set_cons_succ]
              refine wpAnyH_take (i := 13) (v := .bool false) rfl (by kernel_rfl) (by kernel_rfl) (by kernel_rfl) (fun _ _ _ h => h) (Or.inl ⟨by kernel_rfl, fun u hSu => by go_simp⟩) B0 ?_
              simp only [Act.put, List.setIfInBounds_toArray, List.set_cons_zero, List.set_cons_succ]
              refine wpAnyH_take (i := 14) (v := .bool false) rfl (by kernel_rfl) (by kernel_rfl) (by kernel_rfl) (fun _ _ _ h => h) (Or.inl ⟨by kernel_rfl, fun u hSu => by go_simp⟩) B0 ?_
              simp only [Act.put, List.setIfInBounds_toArray, List.set_cons_zero, List.set_cons_succ]
              by_cases h2 : P.1 ≤ low
              case pos =>
                have d2 : decide (P.1 ≤ low) = true := by simpa using h2
                have HBAD := (show Hid ((decide (low < P.1) && decide (P.1 ≤ low + 16)) = false) by show _ = _; rw [show decide (low < P.1) = false by simp; omega]; rfl)
                refine wpAnyH_take (i := 15) (v := .pointer (some ⟨cP, 0, none⟩)) rfl (by kernel_rfl) (by kernel_rfl) (by kernel_rfl) (fun _ _ _ h => h) (Or.inl ⟨by kernel_rfl, fun u hSu => by go_simp⟩) B0 ?_
                simp only [Act.put, List.setIfInBounds_toArray, List.set_cons_zero, List.set_cons_succ]
                refine wpAnyH_take (i := 16) (v := .int .i64 P.1) rfl (by kernel_rfl) (by kernel_rfl) (by kernel_rfl) (fun _ _ _ h => h) (Or.inl ⟨by kernel_rfl, fun u hSu => by have hck := ((HC.out u hSu).1).cell (j := 0) rfl; go_simp⟩) B0 ?_
                simp only [Act.put, List.setIfInBounds_toArray, List.set_cons_zero, List.set_cons_succ]
                refine wpAnyH_take (i := 17) (v := .pointer (some ⟨w.heap.size, 3, none⟩)) rfl (by kernel_rfl) (by kernel_rfl) (by kernel_rfl) (fun _ _ _ h => h) (Or.inl ⟨by kernel_rfl, fun u hSu => by go_simp⟩) B0 ?_
                simp only [Act.put, List.setIfInBounds_toArray, List.set_cons_zero, List.set_cons_succ]
                refine wpAnyH_take (i := 18) (v := .int .i64 low) rfl (by kernel_rfl) (by kernel_rfl) (by kernel_rfl) (fun _ _ _ h => h) (Or.inl ⟨by kernel_rfl, fun u hSu => by have hck := ((HC.out u hSu).2.1).cell (j := 3) rfl; go_simp⟩) B0 ?_
                simp only [Act.put, List.setIfInBounds_toArray, List.set_cons_zero, List.set_cons_succ]
                refine wpAnyH_take (i := 19) (v := .bool true) rfl (by kernel_rfl) (by kernel_rfl) (by kernel_rfl) (fun _ _ _ h => h) (Or.inl ⟨by kernel_rfl, fun u hSu => by go_simp⟩) B0 ?_
                simp only [Act.put, List.setIfInBounds_toArray, List.set_cons_zero, List.set_cons_succ]
                refine wpAnyH_take (i := 20) (v := .bool true) rfl (by kernel_rfl) (by kernel_rfl) (by kernel_rfl) (fun _ _ _ h => h) (Or.inl ⟨by kernel_rfl, fun u hSu => by go_simp⟩) B0 ?_
                simp only [Act.put, List.setIfInBounds_toArray, List.set_cons_zero, List.set_cons_succ]
                refine wpAnyH_take (i := 21) (v := .bool true) rfl (by kernel_rfl) (by kernel_rfl) (by kernel_rfl) (fun _ _ _ h => h) (Or.inl ⟨by kernel_rfl, fun u hSu => by go_simp⟩) B0 ?_
                simp only [Act.put, List.setIfInBounds_toArray, List.set_cons_zero, List.set_cons_succ]
                refine wpAnyH_take (i := 22) (v := undef) rfl (by kernel_rfl) (by kernel_rfl) (by kernel_rfl) (fun _ _ _ h => h) (Or.inr ⟨by kernel_rfl, rfl⟩) B0 ?_
                simp only [Act.put, List.setIfInBounds_toArray, List.set_cons_zero, List.set_cons_succ]
                refine wpAnyH_take (i := 23) (v := undef) rfl (by kernel_rfl) (by kernel_rfl) (by kernel_rfl) (fun _ _ _ h => h) (Or.inr ⟨by kernel_rfl, rfl⟩) B0 ?_
                simp only [Act.put, List.setIfInBounds_toArray, List.set_cons_zero, List.set_cons_succ]
                refine wpAnyH_take (i := 24) (v := undef) rfl (by kernel_rfl) (by kernel_rfl) (by kernel_rfl) (fun _ _ _ h => h) (Or.inr ⟨by kernel_rfl, rfl⟩) B0 ?_
                simp only [Act.put, List.setIfInBounds_toArray, List.set_cons_zero, List.set_cons_succ]
                refine wpAnyH_take (i := 25) (v := undef) rfl (by kernel_rfl) (by kernel_rfl) (by kernel_rfl) (fun _ _ _ h => h) (Or.inr ⟨by kernel_rfl, rfl⟩) B0 ?_
                simp only [Act.put, List.setIfInBounds_toArray, List.set_cons_zero, List.set_cons_succ]
                refine wpAnyH_take (i := 26) (v := undef) rfl (by kernel_rfl) (by kernel_rfl) (by kernel_rfl) (fun _ _ _ h => h) (Or.inr ⟨by kernel_rfl, rfl⟩) B0 ?_
                simp only [Act.put, List.setIfInBounds_toArray, List.set_cons_zero, List.set_cons_succ]
                refine wpAnyH_take (i := 27) (v := undef) rfl (by kernel_rfl) (by kernel_rfl) (by kernel_rfl) (fun _ _ _ h => h) (Or.inr ⟨by kernel_rfl, rfl⟩) B0 ?_
                simp only [Act.put, List.setIfInBounds_toArray, List.set_cons_zero, List.set_cons_succ]
                refine wpAnyH_take (i := 28) (v := .bool true) rfl (by kernel_rfl) (by kernel_rfl) (by kernel_rfl) (fun _ _ _ h => h) (Or.inl ⟨by kernel_rfl, fun u hSu => by go_simp⟩) B0 ?_
                simp only [Act.put, List.setIfInBounds_toArray, List.set_cons_zero, List.set_cons_succ]
                refine wpAnyH_done (by kernel_rfl) ?_ _
                try go_simp
                go_wp2_with fail
                go_meet
                case rel => exact ⟨rfl, true, rfl, B0, ⟨fun _ => HGD.out.trans HBAD.out, fun e => (by cases e)⟩⟩
              have d2 : decide (P.1 ≤ low) = false := by simpa using h2
              refine wpAnyH_take (i := 15) (v := .pointer (some ⟨cP, 0, none⟩)) rfl (by kernel_rfl) (by kernel_rfl) (by kernel_rfl) (fun _ _ _ h => h) (Or.inl ⟨by kernel_rfl, fun u hSu => by go_simp⟩) B0 ?_
              simp only [Act.put, List.setIfInBounds_toArray, List.set_cons_zero, List.set_cons_succ]
              refine wpAnyH_take (i := 16) (v := .int .i64 P.1) rfl (by kernel_rfl) (by kernel_rfl) (by kernel_rfl) (fun _ _ _ h => h) (Or.inl ⟨by kernel_rfl, fun u hSu => by have hck := ((HC.out u hSu).1).cell (j := 0) rfl; go_simp⟩) B0 ?_
              simp only [Act.put, List.setIfInBounds_toArray, List.set_cons_zero, List.set_cons_succ]
              refine wpAnyH_take (i := 17) (v := .pointer (some ⟨w.heap.size, 3, none⟩)) rfl (by kernel_rfl) (by kernel_rfl) (by kernel_rfl) (fun _ _ _ h => h) (Or.inl ⟨by kernel_rfl, fun u hSu => by go_simp⟩) B0 ?_
              simp only [Act.put, List.setIfInBounds_toArray, List.set_cons_zero, List.set_cons_succ]
              refine wpAnyH_take (i := 18) (v := .int .i64 low) rfl (by kernel_rfl) (by kernel_rfl) (by kernel_rfl) (fun _ _ _ h => h) (Or.inl ⟨by kernel_rfl, fun u hSu => by have hck := ((HC.out u hSu).2.1).cell (j := 3) rfl; go_simp⟩) B0 ?_
              simp only [Act.put, List.setIfInBounds_toArray, List.set_cons_zero, List.set_cons_succ]
              refine wpAnyH_take (i := 19) (v := .bool false) rfl (by kernel_rfl) (by kernel_rfl) (by kernel_rfl) (fun _ _ _ h => h) (Or.inl ⟨by kernel_rfl, fun u hSu => by go_simp⟩) B0 ?_
              simp only [Act.put, List.setIfInBounds_toArray, List.set_cons_zero, List.set_cons_succ]
              refine wpAnyH_take (i := 20) (v := .bool false) rfl (by kernel_rfl) (by kernel_rfl) (by kernel_rfl) (fun _ _ _ h => h) (Or.inl ⟨by kernel_rfl, fun u hSu => by go_simp⟩) B0 ?_
              simp only [Act.put, List.setIfInBounds_toArray, List.set_cons_zero, List.set_cons_succ]
              refine wpAnyH_take (i := 21) (v := .bool false) rfl (by kernel_rfl) (by kernel_rfl) (by kernel_rfl) (fun _ _ _ h => h) (Or.inl ⟨by kernel_rfl, fun u hSu => by go_simp⟩) B0 ?_
              simp only [Act.put, List.setIfInBounds_toArray, List.set_cons_zero, List.set_cons_succ]
              by_cases h3 : low + 16 < P.1
              case pos =>
                have d3 : decide (low + 16 < P.1) = true := by simpa using h3
                have HBAD := (show Hid ((decide (low < P.1) && decide (P.1 ≤ low + 16)) = false) by show _ = _; rw [show decide (P.1 ≤ low + 16) = false by simp; omega]; simp)
                refine wpAnyH_take (i := 22) (v := .pointer (some ⟨cP, 0, none⟩)) rfl (by kernel_rfl) (by kernel_rfl) (by kernel_rfl) (fun _ _ _ h => h) (Or.inl ⟨by kernel_rfl, fun u hSu => by go_simp⟩) B0 ?_
                simp only [Act.put, List.setIfInBounds_toArray, List.set_cons_zero, List.set_cons_succ]
                refine wpAnyH_take (i := 23) (v := .int .i64 P.1) rfl (by kernel_rfl) (by kernel_rfl) (by kernel_rfl) (fun _ _ _ h => h) (Or.inl ⟨by kernel_rfl, fun u hSu => by have hck := ((HC.out u hSu).1).cell (j := 0) rfl; go_simp⟩) B0 ?_
                simp only [Act.put, List.setIfInBounds_toArray, List.set_cons_zero, List.set_cons_succ]
                refine wpAnyH_take (i := 24) (v := .pointer (some ⟨w.heap.size, 3, none⟩)) rfl (by kernel_rfl) (by kernel_rfl) (by kernel_rfl) (fun _ _ _ h => h) (Or.inl ⟨by kernel_rfl, fun u hSu => by go_simp⟩) B0 ?_
                simp only [Act.put, List.setIfInBounds_toArray, List.set_cons_zero, List.set_cons_succ]
                refine wpAnyH_take (i := 25) (v := .int .i64 low) rfl (by kernel_rfl) (by kernel_rfl) (by kernel_rfl) (fun _ _ _ h => h) (Or.inl ⟨by kernel_rfl, fun u hSu => by have hck := ((HC.out u hSu).2.1).cell (j := 3) rfl; go_simp⟩) B0 ?_
                simp only [Act.put, List.setIfInBounds_toArray, List.set_cons_zero, List.set_cons_succ]
                refine wpAnyH_take (i := 26) (v := .int .i64 (low + 16)) rfl (by kernel_rfl) (by kernel_rfl) (by kernel_rfl) (fun _ _ _ h => h) (Or.inl ⟨by kernel_rfl, fun u hSu => by go_simp⟩) B0 ?_
                simp only [Act.put, List.setIfInBounds_toArray, List.set_cons_zero, List.set_cons_succ]
                refine wpAnyH_take (i := 27) (v := .bool true) rfl (by kernel_rfl) (by kernel_rfl) (by kernel_rfl) (fun _ _ _ h => h) (Or.inl ⟨by kernel_rfl, fun u hSu => by go_simp⟩) B0 ?_
                simp only [Act.put, List.setIfInBounds_toArray, List.set_cons_zero, List.set_cons_succ]
                refine wpAnyH_take (i := 28) (v := .bool true) rfl (by kernel_rfl) (by kernel_rfl) (by kernel_rfl) (fun _ _ _ h => h) (Or.inl ⟨by kernel_rfl, fun u hSu => by go_simp⟩) B0 ?_
                simp only [Act.put, List.setIfInBounds_toArray, List.set_cons_zero, List.set_cons_succ]
                refine wpAnyH_done (by kernel_rfl) ?_ _
                try go_simp
                go_wp2_with fail
                go_meet
                case rel => exact ⟨rfl, true, rfl, B0, ⟨fun _ => HGD.out.trans HBAD.out, fun e => (by cases e)⟩⟩
              have d3 : decide (low + 16 < P.1) = false := by simpa using h3
              have HLL := (show Hid (low < P.1 ∧ low ≤ low) from ⟨by omega, by omega⟩)
              have HGOOD := (show Hid ((decide (low < P.1) && decide (P.1 ≤ low + 16)) = true) by show _ = _; rw [show decide (low < P.1) = true by simp; omega, show decide (P.1 ≤ low + 16) = true by simp; omega]; rfl)
              refine wpAnyH_take (i := 22) (v := .pointer (some ⟨cP, 0, none⟩)) rfl (by kernel_rfl) (by kernel_rfl) (by kernel_rfl) (fun _ _ _ h => h) (Or.inl ⟨by kernel_rfl, fun u hSu => by go_simp⟩) B0 ?_
              simp only [Act.put, List.setIfInBounds_toArray, List.set_cons_zero, List.set_cons_succ]
              refine wpAnyH_take (i := 23) (v := .int .i64 P.1) rfl (by kernel_rfl) (by kernel_rfl) (by kernel_rfl) (fun _ _ _ h => h) (Or.inl ⟨by kernel_rfl, fun u hSu => by have hck := ((HC.out u hSu).1).cell (j := 0) rfl; go_simp⟩) B0 ?_
              simp only [Act.put, List.setIfInBounds_toArray, List.set_cons_zero, List.set_cons_succ]
              refine wpAnyH_take (i := 24) (v := .pointer (some ⟨w.heap.size, 3, none⟩)) rfl (by kernel_rfl) (by kernel_rfl) (by kernel_rfl) (fun _ _ _ h => h) (Or.inl ⟨by kernel_rfl, fun u hSu => by go_simp⟩) B0 ?_
              simp only [Act.put, List.setIfInBounds_toArray, List.set_cons_zero, List.set_cons_succ]
              refine wpAnyH_take (i := 25) (v := .int .i64 low) rfl (by kernel_rfl) (by kernel_rfl) (by kernel_rfl) (fun _ _ _ h => h) (Or.inl ⟨by kernel_rfl, fun u hSu => by have hck := ((HC.out u hSu).2.1).cell (j := 3) rfl; go_simp⟩) B0 ?_
              simp only [Act.put, List.setIfInBounds_toArray, List.set_cons_zero, List.set_cons_succ]
              refine wpAnyH_take (i := 26) (v := .int .i64 (low + 16)) rfl (by kernel_rfl) (by kernel_rfl) (by kernel_rfl) (fun _ _ _ h => h) (Or.inl ⟨by kernel_rfl, fun u hSu => by go_simp⟩) B0 ?_
              simp only [Act.put, List.setIfInBounds_toArray, List.set_cons_zero, List.set_cons_succ]
              refine wpAnyH_take (i := 27) (v := .bool false) rfl (by kernel_rfl) (by kernel_rfl) (by kernel_rfl) (fun _ _ _ h => h) (Or.inl ⟨by kernel_rfl, fun u hSu => by go_simp⟩) B0 ?_
              simp only [Act.put, List.setIfInBounds_toArray, List.set_cons_zero, List.set_cons_succ]
              refine wpAnyH_take (i := 28) (v := .bool false) rfl (by kernel_rfl) (by kernel_rfl) (by kernel_rfl) (fun _ _ _ h => h) (Or.inl ⟨by kernel_rfl, fun u hSu => by go_simp⟩) B0 ?_
              simp only [Act.put, List.setIfInBounds_toArray, List.set_cons_zero, List.set_cons_succ]
              refine wpAnyH_done (by kernel_rfl) ?_ _
              try go_simp
              go_wp2_with fail
              go_meet
              case rel => exact ⟨rfl, false, rfl, B0, ⟨fun e => (by cases e), fun _ => HGD.out.trans HGOOD.out⟩⟩
            · subst hl0
              obtain ⟨rq, _, hrq, qo, qs, qc, rfl, _⟩ := HATQ.out m Q hQ
              have HPV := (show Hid (∀ u, Below w9.heap.size w9 u → u.cell? ⟨bw, offp + m * 8, none⟩ = some (.int .i64 Q.1)) from fun u hu => rangeAt_block hrq ((below_and hB9 (Nat.le_refl _) hu).block bw hbw) 0 _ rfl)
              have hm1 : wrap64 (((m + 1 : Nat) : Int) - 1) = (m : Int) := by rw [IntWalk.wrap64_in _ ⟨by omega, by omega⟩]; omega
              have hm2 : m < PS.length := by omega
              have hwim : IntKind.i64.wrap (m : Int) = (m : Int) := by rw [IntKind.wrap_i64]; omega
              clear hQ hrq
              try go_simp
              refine wp_region_held_drew (S := fun u => Below w9.heap.size w9 u) (by kernel_rfl) B0 (fun hHeld => ?_)
              clear hHeld
              refine wpAnyH_take (i := 0) (v := .int .i64 ((m + 1 : Nat) : Int)) rfl (by kernel_rfl) (by kernel_rfl) (by kernel_rfl) (fun _ _ _ h => h) (Or.inl ⟨by kernel_rfl, fun u hSu => by go_simp⟩) B0 ?_
              simp only [Act.put, List.setIfInBounds_toArray, List.set_cons_zero, List.set_cons_succ]
              refine wpAnyH_take (i := 1) (v := .bool true) rfl (by kernel_rfl) (by kernel_rfl) (by kernel_rfl) (fun _ _ _ h => h) (Or.inl ⟨by kernel_rfl, fun u hSu => by go_simp⟩) B0 ?_
              simp only [Act.put, List.setIfInBounds_toArray, List.set_cons_zero, List.set_cons_succ]
              refine wpAnyH_take (i := 2) (v := .bool true) rfl (by kernel_rfl) (by kernel_rfl) (by kernel_rfl) (fun _ _ _ h => h) (Or.inl ⟨by kernel_rfl, fun u hSu => by go_simp⟩) B0 ?_
              simp only [Act.put, List.setIfInBounds_toArray, List.set_cons_zero, List.set_cons_succ]
              refine wpAnyH_take (i := 3) (v := .pointer (some ⟨cP, 0, none⟩)) rfl (by kernel_rfl) (by kernel_rfl) (by kernel_rfl) (fun _ _ _ h => h) (Or.inl ⟨by kernel_rfl, fun u hSu => by go_simp⟩) B0 ?_
              simp only [Act.put, List.setIfInBounds_toArray, List.set_cons_zero, List.set_cons_succ]
              refine wpAnyH_take (i := 4) (v := .int .i64 P.1) rfl (by kernel_rfl) (by kernel_rfl) (by kernel_rfl) (fun _ _ _ h => h) (Or.inl ⟨by kernel_rfl, fun u hSu => by have hck := ((HC.out u hSu).1).cell (j := 0) rfl; go_simp⟩) B0 ?_
              simp only [Act.put, List.setIfInBounds_toArray, List.set_cons_zero, List.set_cons_succ]
              refine wpAnyH_take (i := 5) (v := .pointer (some ⟨w.heap.size, 6, none⟩)) rfl (by kernel_rfl) (by kernel_rfl) (by kernel_rfl) (fun _ _ _ h => h) (Or.inl ⟨by kernel_rfl, fun u hSu => by go_simp⟩) B0 ?_
              simp only [Act.put, List.setIfInBounds_toArray, List.set_cons_zero, List.set_cons_succ]
              refine wpAnyH_take (i := 6) (v := .slice (some ⟨bw, offp, none⟩) PS.length cp) rfl (by kernel_rfl) (by kernel_rfl) (by kernel_rfl) (fun _ _ _ h => h) (Or.inl ⟨by kernel_rfl, fun u hSu => by have hck := ((HC.out u hSu).2.1).cell (j := 6) rfl; go_simp⟩) B0 ?_
              simp only [Act.put, List.setIfInBounds_toArray, List.set_cons_zero, List.set_cons_succ]
              refine wpAnyH_take (i := 7) (v := .int .i64 ((m + 1 : Nat) : Int)) rfl (by kernel_rfl) (by kernel_rfl) (by kernel_rfl) (fun _ _ _ h => h) (Or.inl ⟨by kernel_rfl, fun u hSu => by go_simp⟩) B0 ?_
              simp only [Act.put, List.setIfInBounds_toArray, List.set_cons_zero, List.set_cons_succ]
              refine wpAnyH_take (i := 8) (v := .int .i64 m) rfl (by kernel_rfl) (by kernel_rfl) (by kernel_rfl) (fun _ _ _ h => h) (Or.inl ⟨by kernel_rfl, fun u hSu => by go_simp⟩) B0 ?_
              simp only [Act.put, List.setIfInBounds_toArray, List.set_cons_zero, List.set_cons_succ]
              refine wpAnyH_take (i := 9) (v := .pointer (some ⟨bw, offp + m * 8, none⟩)) rfl (by kernel_rfl) (by kernel_rfl) (by kernel_rfl) (fun _ _ _ h => h) (Or.inl ⟨by kernel_rfl, fun u hSu => by go_simp⟩) B0 ?_
              simp only [Act.put, List.setIfInBounds_toArray, List.set_cons_zero, List.set_cons_succ]
              refine wpAnyH_take (i := 10) (v := .pointer (some ⟨bw, offp + m * 8, none⟩)) rfl (by kernel_rfl) (by kernel_rfl) (by kernel_rfl) (fun _ _ _ h => h) (Or.inl ⟨by kernel_rfl, fun u hSu => by go_simp⟩) B0 ?_
              simp only [Act.put, List.setIfInBounds_toArray, List.set_cons_zero, List.set_cons_succ]
              refine wpAnyH_take (i := 11) (v := .int .i64 Q.1) rfl (by kernel_rfl) (by kernel_rfl) (by kernel_rfl) (fun _ _ _ h => h) (Or.inl ⟨by kernel_rfl, fun u hSu => by have hck := HPV.out u hSu; go_simp⟩) B0 ?_
              simp only [Act.put, List.setIfInBounds_toArray, List.set_cons_zero, List.set_cons_succ]
              by_cases h1 : P.1 ≤ Q.1
              case pos =>
                have d1 : decide (P.1 ≤ Q.1) = true := by simpa using h1
                have HBAD := (show Hid ((decide (Q.1 < P.1) && decide (P.1 ≤ low + 16)) = false) by show _ = _; rw [show decide (Q.1 < P.1) = false by simp; omega]; rfl)
                refine wpAnyH_take (i := 12) (v := .bool true) rfl (by kernel_rfl) (by kernel_rfl) (by kernel_rfl) (fun _ _ _ h => h) (Or.inl ⟨by kernel_rfl, fun u hSu => by go_simp⟩) B0 ?_
                simp only [Act.put, List.setIfInBounds_toArray, List.set_cons_zero, List.set_cons_succ]
                refine wpAnyH_take (i := 13) (v := .bool true) rfl (by kernel_rfl) (by kernel_rfl) (by kernel_rfl) (fun _ _ _ h => h) (Or.inl ⟨by kernel_rfl, fun u hSu => by go_simp⟩) B0 ?_
                simp only [Act.put, List.setIfInBounds_toArray, List.set_cons_zero, List.set_cons_succ]
                refine wpAnyH_take (i := 14) (v := .bool true) rfl (by kernel_rfl) (by kernel_rfl) (by kernel_rfl) (fun _ _ _ h => h) (Or.inl ⟨by kernel_rfl, fun u hSu => by go_simp⟩) B0 ?_
                simp only [Act.put, List.setIfInBounds_toArray, List.set_cons_zero, List.set_cons_succ]
                refine wpAnyH_take (i := 15) (v := undef) rfl (by kernel_rfl) (by kernel_rfl) (by kernel_rfl) (fun _ _ _ h => h) (Or.inr ⟨by kernel_rfl, rfl⟩) B0 ?_
                simp only [Act.put, List.setIfInBounds_toArray, List.set_cons_zero, List.set_cons_succ]
                refine wpAnyH_take (i := 16) (v := undef) rfl (by kernel_rfl) (by kernel_rfl) (by kernel_rfl) (fun _ _ _ h => h) (Or.inr ⟨by kernel_rfl, rfl⟩) B0 ?_
                simp only [Act.put, List.setIfInBounds_toArray, List.set_cons_zero, List.set_cons_succ]
                refine wpAnyH_take (i := 17) (v := undef) rfl (by kernel_rfl) (by kernel_rfl) (by kernel_rfl) (fun _ _ _ h => h) (Or.inr ⟨by kernel_rfl, rfl⟩) B0 ?_
                simp only [Act.put, List.setIfInBounds_toArray, List.set_cons_zero, List.set_cons_succ]
                refine wpAnyH_take (i := 18) (v := undef) rfl (by kernel_rfl) (by kernel_rfl) (by kernel_rfl) (fun _ _ _ h => h) (Or.inr ⟨by kernel_rfl, rfl⟩) B0 ?_
                simp only [Act.put, List.setIfInBounds_toArray, List.set_cons_zero, List.set_cons_succ]
                refine wpAnyH_take (i := 19) (v := undef) rfl (by kernel_rfl) (by kernel_rfl) (by kernel_rfl) (fun _ _ _ h => h) (Or.inr ⟨by kernel_rfl, rfl⟩) B0 ?_
                simp only [Act.put, List.setIfInBounds_toArray, List.set_cons_zero, List.set_cons_succ]
                refine wpAnyH_take (i := 20) (v := .bool true) rfl (by kernel_rfl) (by kernel_rfl) (by kernel_rfl) (fun _ _ _ h => h) (Or.inl ⟨by kernel_rfl, fun u hSu => by go_simp⟩) B0 ?_
                simp only [Act.put, List.setIfInBounds_toArray, List.set_cons_zero, List.set_cons_succ]
                refine wpAnyH_take (i := 21) (v := .bool true) rfl (by kernel_rfl) (by kernel_rfl) (by kernel_rfl) (fun _ _ _ h => h) (Or.inl ⟨by kernel_rfl, fun u hSu => by go_simp⟩) B0 ?_
                simp only [Act.put, List.setIfInBounds_toArray, List.set_cons_zero, List.set_cons_succ]
                refine wpAnyH_take (i := 22) (v := undef) rfl (by kernel_rfl) (by kernel_rfl) (by kernel_rfl) (fun _ _ _ h => h) (Or.inr ⟨by kernel_rfl, rfl⟩) B0 ?_
                simp only [Act.put, List.setIfInBounds_toArray, List.set_cons_zero, List.set_cons_succ]
                refine wpAnyH_take (i := 23) (v := undef) rfl (by kernel_rfl) (by kernel_rfl) (by kernel_rfl) (fun _ _ _ h => h) (Or.inr ⟨by kernel_rfl, rfl⟩) B0 ?_
                simp only [Act.put, List.setIfInBounds_toArray, List.set_cons_zero, List.set_cons_succ]
                refine wpAnyH_take (i := 24) (v := undef) rfl (by kernel_rfl) (by kernel_rfl) (by kernel_rfl) (fun _ _ _ h => h) (Or.inr ⟨by kernel_rfl, rfl⟩) B0 ?_
                simp only [Act.put, List.setIfInBounds_toArray, List.set_cons_zero, List.set_cons_succ]
                refine wpAnyH_take (i := 25) (v := undef) rfl (by kernel_rfl) (by kernel_rfl) (by kernel_rfl) (fun _ _ _ h => h) (Or.inr ⟨by kernel_rfl, rfl⟩) B0 ?_
                simp only [Act.put, List.setIfInBounds_toArray, List.set_cons_zero, List.set_cons_succ]
                refine wpAnyH_take (i := 26) (v := undef) rfl (by kernel_rfl) (by kernel_rfl) (by kernel_rfl) (fun _ _ _ h => h) (Or.inr ⟨by kernel_rfl, rfl⟩) B0 ?_
                simp only [Act.put, List.setIfInBounds_toArray, List.set_cons_zero, List.set_cons_succ]
                refine wpAnyH_take (i := 27) (v := undef) rfl (by kernel_rfl) (by kernel_rfl) (by kernel_rfl) (fun _ _ _ h => h) (Or.inr ⟨by kernel_rfl, rfl⟩) B0 ?_
                simp only [Act.put, List.setIfInBounds_toArray, List.set_cons_zero, List.set_cons_succ]
                refine wpAnyH_take (i := 28) (v := .bool true) rfl (by kernel_rfl) (by kernel_rfl) (by kernel_rfl) (fun _ _ _ h => h) (Or.inl ⟨by kernel_rfl, fun u hSu => by go_simp⟩) B0 ?_
                simp only [Act.put, List.setIfInBounds_toArray, List.set_cons_zero, List.set_cons_succ]
                refine wpAnyH_done (by kernel_rfl) ?_ _
                try go_simp
                go_wp2_with fail
                go_meet
                case rel => exact ⟨rfl, true, rfl, B0, ⟨fun _ => HGD.out.trans HBAD.out, fun e => (by cases e)⟩⟩
              have d1 : decide (P.1 ≤ Q.1) = false := by simpa using h1
              refine wpAnyH_take (i := 12) (v := .bool false) rfl (by kernel_rfl) (by kernel_rfl) (by kernel_rfl) (fun _ _ _ h => h) (Or.inl ⟨by kernel_rfl, fun u hSu => by go_simp⟩) B0 ?_
              simp only [Act.put, List.setIfInBounds_toArray, List.set_cons_zero, List.set_cons_succ]
              refine wpAnyH_take (i := 13) (v := .bool false) rfl (by kernel_rfl) (by kernel_rfl) (by kernel_rfl) (fun _ _ _ h => h) (Or.inl ⟨by kernel_rfl, fun u hSu => by go_simp⟩) B0 ?_
              simp only [Act.put, List.setIfInBounds_toArray, List.set_cons_zero, List.set_cons_succ]
              refine wpAnyH_take (i := 14) (v := .bool false) rfl (by kernel_rfl) (by kernel_rfl) (by kernel_rfl) (fun _ _ _ h => h) (Or.inl ⟨by kernel_rfl, fun u hSu => by go_simp⟩) B0 ?_
              simp only [Act.put, List.setIfInBounds_toArray, List.set_cons_zero, List.set_cons_succ]
              by_cases h2 : P.1 ≤ low
              case pos =>
                have d2 : decide (P.1 ≤ low) = true := by simpa using h2
                have HBAD := (show Hid ((decide (Q.1 < P.1) && decide (P.1 ≤ low + 16)) = false) by show _ = _; rw [show decide (Q.1 < P.1) = false by simp; omega]; rfl)
                refine wpAnyH_take (i := 15) (v := .pointer (some ⟨cP, 0, none⟩)) rfl (by kernel_rfl) (by kernel_rfl) (by kernel_rfl) (fun _ _ _ h => h) (Or.inl ⟨by kernel_rfl, fun u hSu => by go_simp⟩) B0 ?_
                simp only [Act.put, List.setIfInBounds_toArray, List.set_cons_zero, List.set_cons_succ]
                refine wpAnyH_take (i := 16) (v := .int .i64 P.1) rfl (by kernel_rfl) (by kernel_rfl) (by kernel_rfl) (fun _ _ _ h => h) (Or.inl ⟨by kernel_rfl, fun u hSu => by have hck := ((HC.out u hSu).1).cell (j := 0) rfl; go_simp⟩) B0 ?_
                simp only [Act.put, List.setIfInBounds_toArray, List.set_cons_zero, List.set_cons_succ]
                refine wpAnyH_take (i := 17) (v := .pointer (some ⟨w.heap.size, 3, none⟩)) rfl (by kernel_rfl) (by kernel_rfl) (by kernel_rfl) (fun _ _ _ h => h) (Or.inl ⟨by kernel_rfl, fun u hSu => by go_simp⟩) B0 ?_
                simp only [Act.put, List.setIfInBounds_toArray, List.set_cons_zero, List.set_cons_succ]
                refine wpAnyH_take (i := 18) (v := .int .i64 low) rfl (by kernel_rfl) (by kernel_rfl) (by kernel_rfl) (fun _ _ _ h => h) (Or.inl ⟨by kernel_rfl, fun u hSu => by have hck := ((HC.out u hSu).2.1).cell (j := 3) rfl; go_simp⟩) B0 ?_
                simp only [Act.put, List.setIfInBounds_toArray, List.set_cons_zero, List.set_cons_succ]
                refine wpAnyH_take (i := 19) (v := .bool true) rfl (by kernel_rfl) (by kernel_rfl) (by kernel_rfl) (fun _ _ _ h => h) (Or.inl ⟨by kernel_rfl, fun u hSu => by go_simp⟩) B0 ?_
                simp only [Act.put, List.setIfInBounds_toArray, List.set_cons_zero, List.set_cons_succ]
                refine wpAnyH_take (i := 20) (v := .bool true) rfl (by kernel_rfl) (by kernel_rfl) (by kernel_rfl) (fun _ _ _ h => h) (Or.inl ⟨by kernel_rfl, fun u hSu => by go_simp⟩) B0 ?_
                simp only [Act.put, List.setIfInBounds_toArray, List.set_cons_zero, List.set_cons_succ]
                refine wpAnyH_take (i := 21) (v := .bool true) rfl (by kernel_rfl) (by kernel_rfl) (by kernel_rfl) (fun _ _ _ h => h) (Or.inl ⟨by kernel_rfl, fun u hSu => by go_simp⟩) B0 ?_
                simp only [Act.put, List.setIfInBounds_toArray, List.set_cons_zero, List.set_cons_succ]
                refine wpAnyH_take (i := 22) (v := undef) rfl (by kernel_rfl) (by kernel_rfl) (by kernel_rfl) (fun _ _ _ h => h) (Or.inr ⟨by kernel_rfl, rfl⟩) B0 ?_
                simp only [Act.put, List.setIfInBounds_toArray, List.set_cons_zero, List.set_cons_succ]
                refine wpAnyH_take (i := 23) (v := undef) rfl (by kernel_rfl) (by kernel_rfl) (by kernel_rfl) (fun _ _ _ h => h) (Or.inr ⟨by kernel_rfl, rfl⟩) B0 ?_
                simp only [Act.put, List.setIfInBounds_toArray, List.set_cons_zero, List.set_cons_succ]
                refine wpAnyH_take (i := 24) (v := undef) rfl (by kernel_rfl) (by kernel_rfl) (by kernel_rfl) (fun _ _ _ h => h) (Or.inr ⟨by kernel_rfl, rfl⟩) B0 ?_
                simp only [Act.put, List.setIfInBounds_toArray, List.set_cons_zero, List.set_cons_succ]
                refine wpAnyH_take (i := 25) (v := undef) rfl (by kernel_rfl) (by kernel_rfl) (by kernel_rfl) (fun _ _ _ h => h) (Or.inr ⟨by kernel_rfl, rfl⟩) B0 ?_
                simp only [Act.put, List.setIfInBounds_toArray, List.set_cons_zero, List.set_cons_succ]
                refine wpAnyH_take (i := 26) (v := undef) rfl (by kernel_rfl) (by kernel_rfl) (by kernel_rfl) (fun _ _ _ h => h) (Or.inr ⟨by kernel_rfl, rfl⟩) B0 ?_
                simp only [Act.put, List.setIfInBounds_toArray, List.set_cons_zero, List.set_cons_succ]
                refine wpAnyH_take (i := 27) (v := undef) rfl (by kernel_rfl) (by kernel_rfl) (by kernel_rfl) (fun _ _ _ h => h) (Or.inr ⟨by kernel_rfl, rfl⟩) B0 ?_
                simp only [Act.put, List.setIfInBounds_toArray, List.set_cons_zero, List.set_cons_succ]
                refine wpAnyH_take (i := 28) (v := .bool true) rfl (by kernel_rfl) (by kernel_rfl) (by kernel_rfl) (fun _ _ _ h => h) (Or.inl ⟨by kernel_rfl, fun u hSu => by go_simp⟩) B0 ?_
                simp only [Act.put, List.setIfInBounds_toArray, List.set_cons_zero, List.set_cons_succ]
                refine wpAnyH_done (by kernel_rfl) ?_ _
                try go_simp
                go_wp2_with fail
                go_meet
                case rel => exact ⟨rfl, true, rfl, B0, ⟨fun _ => HGD.out.trans HBAD.out, fun e => (by cases e)⟩⟩
              have d2 : decide (P.1 ≤ low) = false := by simpa using h2
              refine wpAnyH_take (i := 15) (v := .pointer (some ⟨cP, 0, none⟩)) rfl (by kernel_rfl) (by kernel_rfl) (by kernel_rfl) (fun _ _ _ h => h) (Or.inl ⟨by kernel_rfl, fun u hSu => by go_simp⟩) B0 ?_
              simp only [Act.put, List.setIfInBounds_toArray, List.set_cons_zero, List.set_cons_succ]
              refine wpAnyH_take (i := 16) (v := .int .i64 P.1) rfl (by kernel_rfl) (by kernel_rfl) (by kernel_rfl) (fun _ _ _ h => h) (Or.inl ⟨by kernel_rfl, fun u hSu => by have hck := ((HC.out u hSu).1).cell (j := 0) rfl; go_simp⟩) B0 ?_
              simp only [Act.put, List.setIfInBounds_toArray, List.set_cons_zero, List.set_cons_succ]
              refine wpAnyH_take (i := 17) (v := .pointer (some ⟨w.heap.size, 3, none⟩)) rfl (by kernel_rfl) (by kernel_rfl) (by kernel_rfl) (fun _ _ _ h => h) (Or.inl ⟨by kernel_rfl, fun u hSu => by go_simp⟩) B0 ?_
              simp only [Act.put, List.setIfInBounds_toArray, List.set_cons_zero, List.set_cons_succ]
              refine wpAnyH_take (i := 18) (v := .int .i64 low) rfl (by kernel_rfl) (by kernel_rfl) (by kernel_rfl) (fun _ _ _ h => h) (Or.inl ⟨by kernel_rfl, fun u hSu => by have hck := ((HC.out u hSu).2.1).cell (j := 3) rfl; go_simp⟩) B0 ?_
              simp only [Act.put, List.setIfInBounds_toArray, List.set_cons_zero, List.set_cons_succ]
              refine wpAnyH_take (i := 19) (v := .bool false) rfl (by kernel_rfl) (by kernel_rfl) (by kernel_rfl) (fun _ _ _ h => h) (Or.inl ⟨by kernel_rfl, fun u hSu => by go_simp⟩) B0 ?_
              simp only [Act.put, List.setIfInBounds_toArray, List.set_cons_zero, List.set_cons_succ]
              refine wpAnyH_take (i := 20) (v := .bool false) rfl (by kernel_rfl) (by kernel_rfl) (by kernel_rfl) (fun _ _ _ h => h) (Or.inl ⟨by kernel_rfl, fun u hSu => by go_simp⟩) B0 ?_
              simp only [Act.put, List.setIfInBounds_toArray, List.set_cons_zero, List.set_cons_succ]
              refine wpAnyH_take (i := 21) (v := .bool false) rfl (by kernel_rfl) (by kernel_rfl) (by kernel_rfl) (fun _ _ _ h => h) (Or.inl ⟨by kernel_rfl, fun u hSu => by go_simp⟩) B0 ?_
              simp only [Act.put, List.setIfInBounds_toArray, List.set_cons_zero, List.set_cons_succ]
              by_cases h3 : low + 16 < P.1
              case pos =>
                have d3 : decide (low + 16 < P.1) = true := by simpa using h3
                have HBAD := (show Hid ((decide (Q.1 < P.1) && decide (P.1 ≤ low + 16)) = false) by show _ = _; rw [show decide (P.1 ≤ low + 16) = false by simp; omega]; simp)
                refine wpAnyH_take (i := 22) (v := .pointer (some ⟨cP, 0, none⟩)) rfl (by kernel_rfl) (by kernel_rfl) (by kernel_rfl) (fun _ _ _ h => h) (Or.inl ⟨by kernel_rfl, fun u hSu => by go_simp⟩) B0 ?_
                simp only [Act.put, List.setIfInBounds_toArray, List.set_cons_zero, List.set_cons_succ]
                refine wpAnyH_take (i := 23) (v := .int .i64 P.1) rfl (by kernel_rfl) (by kernel_rfl) (by kernel_rfl) (fun _ _ _ h => h) (Or.inl ⟨by kernel_rfl, fun u hSu => by have hck := ((HC.out u hSu).1).cell (j := 0) rfl; go_simp⟩) B0 ?_
                simp only [Act.put, List.setIfInBounds_toArray, List.set_cons_zero, List.set_cons_succ]
                refine wpAnyH_take (i := 24) (v := .pointer (some ⟨w.heap.size, 3, none⟩)) rfl (by kernel_rfl) (by kernel_rfl) (by kernel_rfl) (fun _ _ _ h => h) (Or.inl ⟨by kernel_rfl, fun u hSu => by go_simp⟩) B0 ?_
                simp only [Act.put, List.setIfInBounds_toArray, List.set_cons_zero, List.set_cons_succ]
                refine wpAnyH_take (i := 25) (v := .int .i64 low) rfl (by kernel_rfl) (by kernel_rfl) (by kernel_rfl) (fun _ _ _ h => h) (Or.inl ⟨by kernel_rfl, fun u hSu => by have hck := ((HC.out u hSu).2.1).cell (j := 3) rfl; go_simp⟩) B0 ?_
                simp only [Act.put, List.setIfInBounds_toArray, List.set_cons_zero, List.set_cons_succ]
                refine wpAnyH_take (i := 26) (v := .int .i64 (low + 16)) rfl (by kernel_rfl) (by kernel_rfl) (by kernel_rfl) (fun _ _ _ h => h) (Or.inl ⟨by kernel_rfl, fun u hSu => by go_simp⟩) B0 ?_
                simp only [Act.put, List.setIfInBounds_toArray, List.set_cons_zero, List.set_cons_succ]
                refine wpAnyH_take (i := 27) (v := .bool true) rfl (by kernel_rfl) (by kernel_rfl) (by kernel_rfl) (fun _ _ _ h => h) (Or.inl ⟨by kernel_rfl, fun u hSu => by go_simp⟩) B0 ?_
                simp only [Act.put, List.setIfInBounds_toArray, List.set_cons_zero, List.set_cons_succ]
                refine wpAnyH_take (i := 28) (v := .bool true) rfl (by kernel_rfl) (by kernel_rfl) (by kernel_rfl) (fun _ _ _ h => h) (Or.inl ⟨by kernel_rfl, fun u hSu => by go_simp⟩) B0 ?_
                simp only [Act.put, List.setIfInBounds_toArray, List.set_cons_zero, List.set_cons_succ]
                refine wpAnyH_done (by kernel_rfl) ?_ _
                try go_simp
                go_wp2_with fail
                go_meet
                case rel => exact ⟨rfl, true, rfl, B0, ⟨fun _ => HGD.out.trans HBAD.out, fun e => (by cases e)⟩⟩
              have d3 : decide (low + 16 < P.1) = false := by simpa using h3
              have HLL := (show Hid (Q.1 < P.1 ∧ low ≤ Q.1) from ⟨by omega, by omega⟩)
              have HGOOD := (show Hid ((decide (Q.1 < P.1) && decide (P.1 ≤ low + 16)) = true) by show _ = _; rw [show decide (Q.1 < P.1) = true by simp; omega, show decide (P.1 ≤ low + 16) = true by simp; omega]; rfl)
              refine wpAnyH_take (i := 22) (v := .pointer (some ⟨cP, 0, none⟩)) rfl (by kernel_rfl) (by kernel_rfl) (by kernel_rfl) (fun _ _ _ h => h) (Or.inl ⟨by kernel_rfl, fun u hSu => by go_simp⟩) B0 ?_
              simp only [Act.put, List.setIfInBounds_toArray, List.set_cons_zero, List.set_cons_succ]
              refine wpAnyH_take (i := 23) (v := .int .i64 P.1) rfl (by kernel_rfl) (by kernel_rfl) (by kernel_rfl) (fun _ _ _ h => h) (Or.inl ⟨by kernel_rfl, fun u hSu => by have hck := ((HC.out u hSu).1).cell (j := 0) rfl; go_simp⟩) B0 ?_
              simp only [Act.put, List.setIfInBounds_toArray, List.set_cons_zero, List.set_cons_succ]
              refine wpAnyH_take (i := 24) (v := .pointer (some ⟨w.heap.size, 3, none⟩)) rfl (by kernel_rfl) (by kernel_rfl) (by kernel_rfl) (fun _ _ _ h => h) (Or.inl ⟨by kernel_rfl, fun u hSu => by go_simp⟩) B0 ?_
              simp only [Act.put, List.setIfInBounds_toArray, List.set_cons_zero, List.set_cons_succ]
              refine wpAnyH_take (i := 25) (v := .int .i64 low) rfl (by kernel_rfl) (by kernel_rfl) (by kernel_rfl) (fun _ _ _ h => h) (Or.inl ⟨by kernel_rfl, fun u hSu => by have hck := ((HC.out u hSu).2.1).cell (j := 3) rfl; go_simp⟩) B0 ?_
              simp only [Act.put, List.setIfInBounds_toArray, List.set_cons_zero, List.set_cons_succ]
              refine wpAnyH_take (i := 26) (v := .int .i64 (low + 16)) rfl (by kernel_rfl) (by kernel_rfl) (by kernel_rfl) (fun _ _ _ h => h) (Or.inl ⟨by kernel_rfl, fun u hSu => by go_simp⟩) B0 ?_
              simp only [Act.put, List.setIfInBounds_toArray, List.set_cons_zero, List.set_cons_succ]
              refine wpAnyH_take (i := 27) (v := .bool false) rfl (by kernel_rfl) (by kernel_rfl) (by kernel_rfl) (fun _ _ _ h => h) (Or.inl ⟨by kernel_rfl, fun u hSu => by go_simp⟩) B0 ?_
              simp only [Act.put, List.setIfInBounds_toArray, List.set_cons_zero, List.set_cons_succ]
              refine wpAnyH_take (i := 28) (v := .bool false) rfl (by kernel_rfl) (by kernel_rfl) (by kernel_rfl) (fun _ _ _ h => h) (Or.inl ⟨by kernel_rfl, fun u hSu => by go_simp⟩) B0 ?_
              simp only [Act.put, List.setIfInBounds_toArray, List.set_cons_zero, List.set_cons_succ]
              refine wpAnyH_done (by kernel_rfl) ?_ _
              try go_simp
              go_wp2_with fail
              go_meet
              case rel => exact ⟨rfl, false, rfl, B0, ⟨fun e => (by cases e), fun _ => HGD.out.trans HGOOD.out⟩⟩
          case rest =>
            obtain ⟨rfl, c, rfl, bq, h1, h2⟩ := hcut
            have H1 := (show Hid (c = true → gd = false) from h1)
            have H2 := (show Hid (c = false → gd = true) from h2)
            clear h1 h2 B0
            obtain ⟨w10, hw10⟩ : ∃ u : World, u = wc := ⟨_, rfl⟩
            subst hw10
            cases c with
            | true =>
              have hs := H1.out rfl
              subst hs
              clear H1 H2
              go_wp2_with fail
              go_ret
              exact ⟨by rw [HW.out, HWU1.out]; simp, below_and hB9 (Nat.le_refl _) bq⟩
            | false =>
              have hs := H2.out rfl
              have HLL : Hid (last < P.1 ∧ low ≤ last) := by
                show _ ∧ _
                have h9 := HGD.out.symm.trans hs
                simp only [Bool.and_eq_true, decide_eq_true_eq] at h9
                exact ⟨h9.1, HLA.out⟩
              subst hs
              have B0 := bq
              clear H1 H2 bq
              have hB10 := below_and hB9 (Nat.le_refl _) B0
              have HC1 := (show Hid (∀ u, Below w10.heap.size w10 u → Row u cP 66 [.int .i64 P.1, .int .i64 P.2.1.1, .int .i64 P.2.1.2, .int .i64 P.2.2.1.1, .int .i64 P.2.2.1.2.1, po, ps, pc] ∧ Row u w.heap.size 28 [.int .i64 x.1.1, .int .i64 x.1.2, .int .i64 rep, .int .i64 low, .slice ad dl cd, .slice av vl cv, .slice (some ⟨bw, offp, none⟩) PS.length cp, rg]) from fun u hu => ⟨(HC.out u (below_and B0 (Nat.le_refl _) hu)).1, (HC.out u (below_and B0 (Nat.le_refl _) hu)).2.1⟩)
              clear HC HC0
              obtain ⟨rP, rX⟩ := HC1.out w10 (Below.refl _ _)
              have HUW := (show Hid (∀ u, Below w10.heap.size w10 u → Below w.heap.size w u) from fun u hu => below_and hB10 (Nat.le_refl _) hu)
              have HRQ := (show Hid (∀ u, Below w10.heap.size w10 u → RReq Any u [.int .i64 P.2.2.1.1, .int .i64 P.2.2.1.2.1, po, ps] P.2.2.1) from fun u hu => mov_req _ _ _ _ _ _ (HRP.out).1 (HUW.out u hu).size (Mv.below (HUW.out u hu)))
              have HCM := (show Hid (Calls Tryz.prog 37 #[.agg #[.int .i64 P.2.1.1, .int .i64 P.2.1.2], .agg #[.int .i64 x.1.1, .int .i64 x.1.2]] w10 fun e w' => e = .returned (.int .i64 (cmp2 P.2.1.1 P.2.1.2 x.1.1 x.1.2)) ∧ Below w10.heap.size w10 w') from refCompareB_any w10 _ _ _ _)
              have HNO := (show Hid (∀ u, Below w10.heap.size w10 u → Calls Tryz.prog 28 #[.agg #[.int .i64 P.2.2.1.1, .int .i64 P.2.2.1.2.1, po, ps], .agg #[.int .i64 0, .int .i64 0, .slice none 0 0, .slice none 0 0]] u fun e w' => e = .returned (.bool (decide (P.2.2.1 = qz))) ∧ Below u.heap.size u w') from fun u hu => sameReq_any u _ _ _ qz (HRQ.out u hu) ⟨_, _, rfl, RT.nil _ _, RT.nil _ _⟩)
              have HAS := (show Hid (∀ u, Below w10.heap.size w10 u → Calls Tryz.prog 38 #[.agg #[.int .i64 P.2.2.1.1, .int .i64 P.2.2.1.2.1, po, ps]] u fun e w' => e = .returned (.bool (askedL P.2.2.1)) ∧ Below u.heap.size u w') from fun u hu => refAsked_any u _ _ (HRQ.out u hu) (op_lenC HZP.out))
              have HBO := (show Hid (∀ u, Below w10.heap.size w10 u → Calls Tryz.prog 39 #[.agg #[.int .i64 P.2.2.1.1, .int .i64 P.2.2.1.2.1, po, ps]] u fun e w' => ∃ v', e = .returned v' ∧ Rd w' v' (body P.2.2.1) ∧ Below u.heap.size u w') from fun u hu => (refBody_any u _ _ (HRQ.out u hu) (Nat.le_trans HZP.out (by decide))).mono fun e w' ⟨v', h1, h2, h3, h4⟩ => ⟨v', h1, h2.rd (body_bytC (HRQ.out u hu) HZP.out), h4⟩)
              have HCE := (show Hid (∀ u v, Below w10.heap.size w10 u → Rd u v (body P.2.2.1) → Calls Tryz.prog 36 #[.int .i64 2, .agg #[.int .i64 P.2.1.1, .int .i64 P.2.1.2], .int .i64 P.1, v, pc, .int .i64 n] u fun e w' => e = .returned (.bool (certL (rightV 2 P.2.1.1 P.2.1.2 P.1 (body P.2.2.1)) n P.2.2.2)) ∧ Below u.heap.size u w') from fun u v hu hv => refCert_any u 2 _ _ _ v _ n pc _ hv (body_lenC HZP.out) (HRP.out.2.mv mov_vote (HUW.out u hu).size (Mv.below (HUW.out u hu))))
              have h36z : ∀ u, (Instr.build 62 #[]).run Tryz.prog u = .ok (.agg #[.int .i64 0, .int .i64 0, .slice none 0 0, .slice none 0 0]) u := fun u => by kernel_rfl
              have hWp : prepdL x.1 n P = (decide (cmp2 P.2.1.1 P.2.1.2 x.1.1 x.1.2 < 0) && (decide (P.2.2.1 = qz) || askedL P.2.2.1) && certL (rightV 2 P.2.1.1 P.2.1.2 P.1 (body P.2.2.1)) n P.2.2.2) := rfl
              have HWP := (show Hid (_ = _) from hWp)
              clear hWp HRQ
              have h3 := cmp2_three P.2.1.1 P.2.1.2 x.1.1 x.1.2
              generalize cmp2 P.2.1.1 P.2.1.2 x.1.1 x.1.2 = cc at *
              generalize decide (P.2.2.1 = qz) = nn at *
              generalize askedL P.2.2.1 = aa at *
              rcases h3 with rfl | rfl | rfl
              rotate_left
              · go_wp2_with (first
                  | (refine wl_part_w (by rfl) _ _ rfl cP 1 rfl _ _ rP [.int .i64 P.2.1.1, .int .i64 P.2.1.2] rfl _ Tryz.underlying23 rfl (by kernel_rfl) ?_)
                  | (refine wl_part_w (by rfl) _ _ rfl w.heap.size 0 rfl _ _ rX [.int .i64 x.1.1, .int .i64 x.1.2] rfl _ Tryz.underlying23 rfl (by kernel_rfl) ?_)
                  | (go_at_call 37; refine HCM.out.mono ?_; rintro e wx ⟨rfl, bx⟩; (try dsimp only); refine (by assumption : ∀ (a : Act) (w : World), _ → _) _ _ ?_; go_wp2_with fail))
                go_ret
                exact ⟨by rw [HW.out, HWU1.out, HWP.out]; simp, HUW.out _ bx⟩
              · go_wp2_with (first
                  | (refine wl_part_w (by rfl) _ _ rfl cP 1 rfl _ _ rP [.int .i64 P.2.1.1, .int .i64 P.2.1.2] rfl _ Tryz.underlying23 rfl (by kernel_rfl) ?_)
                  | (refine wl_part_w (by rfl) _ _ rfl w.heap.size 0 rfl _ _ rX [.int .i64 x.1.1, .int .i64 x.1.2] rfl _ Tryz.underlying23 rfl (by kernel_rfl) ?_)
                  | (go_at_call 37; refine HCM.out.mono ?_; rintro e wx ⟨rfl, bx⟩; (try dsimp only); refine (by assumption : ∀ (a : Act) (w : World), _ → _) _ _ ?_; go_wp2_with fail))
                go_ret
                exact ⟨by rw [HW.out, HWU1.out, HWP.out]; simp, HUW.out _ bx⟩
              cases nn with
              | true =>
                go_upto_region 17 with (first
                  | (refine wl_part_w (by rfl) _ _ rfl cP 1 rfl _ _ rP [.int .i64 P.2.1.1, .int .i64 P.2.1.2] rfl _ Tryz.underlying23 rfl (by kernel_rfl) ?_)
                  | (refine wl_part_w (by rfl) _ _ rfl w.heap.size 0 rfl _ _ rX [.int .i64 x.1.1, .int .i64 x.1.2] rfl _ Tryz.underlying23 rfl (by kernel_rfl) ?_)
                  | (go_at_call 37; refine HCM.out.mono ?_; rintro e w11 ⟨rfl, b11⟩; have rP11 := (HC1.out w11 b11).1)
                  | (go_at_call 28; refine (HNO.out w11 b11).mono ?_; rintro e w12 ⟨rfl, b12⟩; have B12 := below_and b11 (Nat.le_refl _) b12; have rP12 := (HC1.out w12 B12).1)
                  | (refine wl_part_w (by rfl) _ _ rfl cP 3 rfl _ _ rP12 [.int .i64 P.2.2.1.1, .int .i64 P.2.2.1.2.1, po, ps] rfl _ Tryz.underlying62 rfl (by kernel_rfl) ?_)
                  | (refine wl_part_w (by rfl) _ _ rfl cP 3 rfl _ _ rP11 [.int .i64 P.2.2.1.1, .int .i64 P.2.2.1.2.1, po, ps] rfl _ Tryz.underlying62 rfl (by kernel_rfl) ?_))
                obtain ⟨wk, hwk⟩ : ∃ u, u = w12 := ⟨_, rfl⟩
                have Bk : Below w10.heap.size w10 wk := by rw [hwk]; exact B12
                rw [← hwk]
                clear hwk
                have HCk := (show Hid (∀ u, Below wk.heap.size wk u → Row u cP 66 [.int .i64 P.1, .int .i64 P.2.1.1, .int .i64 P.2.1.2, .int .i64 P.2.2.1.1, .int .i64 P.2.2.1.2.1, po, ps, pc]) from fun u hu => (HC1.out u (below_and Bk (Nat.le_refl _) hu)).1)
                have B0k : Below wk.heap.size wk wk.drew := ⟨rfl, rfl, rfl, Nat.le_refl _, fun _ _ => rfl⟩
                try go_simp
                refine wp_region_held_drew (S := fun u => Below wk.heap.size wk u) (by kernel_rfl) B0k (fun hHeld => ?_)
                clear hHeld
                refine wpAnyH_take (i := 0) (v := .pointer (some ⟨cP, 1, none⟩)) rfl (by kernel_rfl) (by kernel_rfl) (by kernel_rfl) (fun _ _ _ h => h) (Or.inl ⟨by kernel_rfl, fun u hSu => by go_simp⟩) B0k ?_
                simp only [Act.put, List.setIfInBounds_toArray, List.set_cons_zero, List.set_cons_succ]
                refine wpAnyH_take (i := 1) (v := .agg #[.int .i64 P.2.1.1, .int .i64 P.2.1.2]) rfl (by kernel_rfl) (by kernel_rfl) (by kernel_rfl) (fun _ _ _ h => h) (yieldsIf_load_mid (by kernel_rfl) _ _ rfl cP 1 (by go_simp) [.int .i64 P.2.1.1, .int .i64 P.2.1.2] _ (fun u hSu => (HCk.out u hSu).mid 1 rfl) Tryz.underlying23 rfl (by kernel_rfl)) B0k ?_
                simp only [Act.put, List.setIfInBounds_toArray, List.set_cons_zero, List.set_cons_succ]
                refine wpAnyH_take (i := 2) (v := .pointer (some ⟨cP, 0, none⟩)) rfl (by kernel_rfl) (by kernel_rfl) (by kernel_rfl) (fun _ _ _ h => h) (Or.inl ⟨by kernel_rfl, fun u hSu => by go_simp⟩) B0k ?_
                simp only [Act.put, List.setIfInBounds_toArray, List.set_cons_zero, List.set_cons_succ]
                refine wpAnyH_take (i := 3) (v := .int .i64 P.1) rfl (by kernel_rfl) (by kernel_rfl) (by kernel_rfl) (fun _ _ _ h => h) (Or.inl ⟨by kernel_rfl, fun u hSu => by have hck := (HCk.out u hSu).cell (j := 0) rfl; go_simp⟩) B0k ?_
                simp only [Act.put, List.setIfInBounds_toArray, List.set_cons_zero, List.set_cons_succ]
                refine wpAnyH_take (i := 4) (v := .pointer (some ⟨cP, 3, none⟩)) rfl (by kernel_rfl) (by kernel_rfl) (by kernel_rfl) (fun _ _ _ h => h) (Or.inl ⟨by kernel_rfl, fun u hSu => by go_simp⟩) B0k ?_
                simp only [Act.put, List.setIfInBounds_toArray, List.set_cons_zero, List.set_cons_succ]
                refine wpAnyH_take (i := 5) (v := .agg #[.int .i64 P.2.2.1.1, .int .i64 P.2.2.1.2.1, po, ps]) rfl (by kernel_rfl) (by kernel_rfl) (by kernel_rfl) (fun _ _ _ h => h) (yieldsIf_load_mid (by kernel_rfl) _ _ rfl cP 3 (by go_simp) [.int .i64 P.2.2.1.1, .int .i64 P.2.2.1.2.1, po, ps] _ (fun u hSu => (HCk.out u hSu).mid 3 rfl) Tryz.underlying62 rfl (by kernel_rfl)) B0k ?_
                simp only [Act.put, List.setIfInBounds_toArray, List.set_cons_zero, List.set_cons_succ]
                refine wpAnyH_take (i := 7) (v := .pointer (some ⟨cP, 7, none⟩)) rfl (by kernel_rfl) (by kernel_rfl) (by kernel_rfl) (fun _ _ _ h => h) (Or.inl ⟨by kernel_rfl, fun u hSu => by go_simp⟩) B0k ?_
                simp only [Act.put, List.setIfInBounds_toArray, List.set_cons_zero, List.set_cons_succ]
                refine wpAnyH_take (i := 8) (v := pc) rfl (by kernel_rfl) (by kernel_rfl) (by kernel_rfl) (fun _ _ _ h => h) (Or.inl ⟨by kernel_rfl, fun u hSu => by have hck := (HCk.out u hSu).cell (j := 7) rfl; go_simp⟩) B0k ?_
                simp only [Act.put, List.setIfInBounds_toArray, List.set_cons_zero, List.set_cons_succ]
                refine wpAnyH_take (i := 9) (v := .int .i64 n) rfl (by kernel_rfl) (by kernel_rfl) (by kernel_rfl) (fun _ _ _ h => h) (Or.inl ⟨by kernel_rfl, fun u hSu => by go_simp⟩) B0k ?_
                simp only [Act.put, List.setIfInBounds_toArray, List.set_cons_zero, List.set_cons_succ]
                refine wpAnyH_ready (rs := [6]) (by kernel_rfl) (by simp) ?_
                refine AllReadyH.cons (o := _) rfl (fun K hK => ?_) AllReadyH.nil
                go_simp
                refine (HBO.out _ (below_and Bk (Nat.le_refl _) B0k)).mono ?_
                rintro e w15 ⟨v15, rfl, hv15, b15⟩
                have B15 := below_and B0k (Nat.le_refl _) b15
                try go_simp
                refine hK.out _ _ B15 (fun hHeld => ?_)
                clear hK K hHeld
                refine wpAnyH_ready (rs := [10]) (by kernel_rfl) (by simp) ?_
                refine AllReadyH.cons (o := _) rfl (fun K hK => ?_) AllReadyH.nil
                go_simp
                refine (HCE.out w15 v15 (below_and Bk (Nat.le_refl _) B15) hv15).mono ?_
                rintro e w16 ⟨rfl, b16⟩
                have B16 := below_and B15 (Nat.le_refl _) b16
                try go_simp
                refine hK.out _ _ B16 (fun hHeld => ?_)
                clear hK K hHeld
                generalize certL (rightV 2 P.2.1.1 P.2.1.2 P.1 (body P.2.2.1)) n P.2.2.2 = cv at *
                cases cv with
                | false =>
                  refine wpAnyH_take (i := 11) (v := .bool true) rfl (by kernel_rfl) (by kernel_rfl) (by kernel_rfl) (fun _ _ _ h => h) (Or.inl ⟨by kernel_rfl, fun u hSu => by go_simp⟩) B16 ?_
                  simp only [Act.put, List.setIfInBounds_toArray, List.set_cons_zero, List.set_cons_succ]
                  refine wpAnyH_done (by kernel_rfl) ?_ _
                  go_wp2_with fail
                  go_ret
                  exact ⟨by rw [HW.out, HWU1.out, HWP.out]; simp, HUW.out _ (below_and Bk (Nat.le_refl _) B16)⟩
                | true =>
                  refine wpAnyH_take (i := 11) (v := .bool false) rfl (by kernel_rfl) (by kernel_rfl) (by kernel_rfl) (fun _ _ _ h => h) (Or.inl ⟨by kernel_rfl, fun u hSu => by go_simp⟩) B16 ?_
                  simp only [Act.put, List.setIfInBounds_toArray, List.set_cons_zero, List.set_cons_succ]
                  refine wpAnyH_done (by kernel_rfl) ?_ _
                  go_wp2_with fail
                  go_roundw
                  case rel => exact ⟨i + 1, P.1, by omega, by go_num, .inr ⟨i, P, rfl, HP.out, rfl⟩, by have := HLL.out; omega, by rw [HW.out, HWU1.out, HWP.out]; simp, HUW.out _ (below_and Bk (Nat.le_refl _) B16), below_and (below_and (below_and HB19.out (Nat.le_refl _) B0) (Nat.le_refl _) Bk) (Nat.le_refl _) B16⟩
                  case measure => simp [intOf]; omega
              | false =>
                cases aa with
                | false =>
                  go_wp2_with (first
                  | (refine wl_part_w (by rfl) _ _ rfl cP 1 rfl _ _ rP [.int .i64 P.2.1.1, .int .i64 P.2.1.2] rfl _ Tryz.underlying23 rfl (by kernel_rfl) ?_)
                    | (refine wl_part_w (by rfl) _ _ rfl w.heap.size 0 rfl _ _ rX [.int .i64 x.1.1, .int .i64 x.1.2] rfl _ Tryz.underlying23 rfl (by kernel_rfl) ?_)
                    | (go_at_call 37; refine HCM.out.mono ?_; rintro e w11 ⟨rfl, b11⟩; have rP11 := (HC1.out w11 b11).1)
                    | (go_at_call 28; refine (HNO.out w11 b11).mono ?_; rintro e w12 ⟨rfl, b12⟩; have B12 := below_and b11 (Nat.le_refl _) b12; have rP12 := (HC1.out w12 B12).1)
                    | (refine wl_part_w (by rfl) _ _ rfl cP 3 rfl _ _ rP12 [.int .i64 P.2.2.1.1, .int .i64 P.2.2.1.2.1, po, ps] rfl _ Tryz.underlying62 rfl (by kernel_rfl) ?_)
                    | (refine wl_part_w (by rfl) _ _ rfl cP 3 rfl _ _ rP11 [.int .i64 P.2.2.1.1, .int .i64 P.2.2.1.2.1, po, ps] rfl _ Tryz.underlying62 rfl (by kernel_rfl) ?_)
                    | (go_at_call 38; refine (HAS.out w12 B12).mono ?_; rintro e w13 ⟨rfl, b13⟩; have B13 := below_and B12 (Nat.le_refl _) b13; (try dsimp only); refine (by assumption : ∀ (a : Act) (w : World), _ → _) _ _ ?_; go_wp2_with fail))
                  go_ret
                  exact ⟨by rw [HW.out, HWU1.out, HWP.out]; simp, HUW.out _ B13⟩
                | true =>
                  go_upto_region 17 with (first
                  | (refine wl_part_w (by rfl) _ _ rfl cP 1 rfl _ _ rP [.int .i64 P.2.1.1, .int .i64 P.2.1.2] rfl _ Tryz.underlying23 rfl (by kernel_rfl) ?_)
                    | (refine wl_part_w (by rfl) _ _ rfl w.heap.size 0 rfl _ _ rX [.int .i64 x.1.1, .int .i64 x.1.2] rfl _ Tryz.underlying23 rfl (by kernel_rfl) ?_)
                    | (go_at_call 37; refine HCM.out.mono ?_; rintro e w11 ⟨rfl, b11⟩; have rP11 := (HC1.out w11 b11).1)
                    | (go_at_call 28; refine (HNO.out w11 b11).mono ?_; rintro e w12 ⟨rfl, b12⟩; have B12 := below_and b11 (Nat.le_refl _) b12; have rP12 := (HC1.out w12 B12).1)
                    | (refine wl_part_w (by rfl) _ _ rfl cP 3 rfl _ _ rP12 [.int .i64 P.2.2.1.1, .int .i64 P.2.2.1.2.1, po, ps] rfl _ Tryz.underlying62 rfl (by kernel_rfl) ?_)
                    | (refine wl_part_w (by rfl) _ _ rfl cP 3 rfl _ _ rP11 [.int .i64 P.2.2.1.1, .int .i64 P.2.2.1.2.1, po, ps] rfl _ Tryz.underlying62 rfl (by kernel_rfl) ?_)
                    | (go_at_call 38; refine (HAS.out w12 B12).mono ?_; rintro e w13 ⟨rfl, b13⟩; have B13 := below_and B12 (Nat.le_refl _) b13))
                  obtain ⟨wk, hwk⟩ : ∃ u, u = w13 := ⟨_, rfl⟩
                  have Bk : Below w10.heap.size w10 wk := by rw [hwk]; exact B13
                  rw [← hwk]
                  clear hwk
                  have HCk := (show Hid (∀ u, Below wk.heap.size wk u → Row u cP 66 [.int .i64 P.1, .int .i64 P.2.1.1, .int .i64 P.2.1.2, .int .i64 P.2.2.1.1, .int .i64 P.2.2.1.2.1, po, ps, pc]) from fun u hu => (HC1.out u (below_and Bk (Nat.le_refl _) hu)).1)
                  have B0k : Below wk.heap.size wk wk.drew := ⟨rfl, rfl, rfl, Nat.le_refl _, fun _ _ => rfl⟩
                  try go_simp
                  refine wp_region_held_drew (S := fun u => Below wk.heap.size wk u) (by kernel_rfl) B0k (fun hHeld => ?_)
                  clear hHeld
                  refine wpAnyH_take (i := 0) (v := .pointer (some ⟨cP, 1, none⟩)) rfl (by kernel_rfl) (by kernel_rfl) (by kernel_rfl) (fun _ _ _ h => h) (Or.inl ⟨by kernel_rfl, fun u hSu => by go_simp⟩) B0k ?_
                  simp only [Act.put, List.setIfInBounds_toArray, List.set_cons_zero, List.set_cons_succ]
                  refine wpAnyH_take (i := 1) (v := .agg #[.int .i64 P.2.1.1, .int .i64 P.2.1.2]) rfl (by kernel_rfl) (by kernel_rfl) (by kernel_rfl) (fun _ _ _ h => h) (yieldsIf_load_mid (by kernel_rfl) _ _ rfl cP 1 (by go_simp) [.int .i64 P.2.1.1, .int .i64 P.2.1.2] _ (fun u hSu => (HCk.out u hSu).mid 1 rfl) Tryz.underlying23 rfl (by kernel_rfl)) B0k ?_
                  simp only [Act.put, List.setIfInBounds_toArray, List.set_cons_zero, List.set_cons_succ]
                  refine wpAnyH_take (i := 2) (v := .pointer (some ⟨cP, 0, none⟩)) rfl (by kernel_rfl) (by kernel_rfl) (by kernel_rfl) (fun _ _ _ h => h) (Or.inl ⟨by kernel_rfl, fun u hSu => by go_simp⟩) B0k ?_
                  simp only [Act.put, List.setIfInBounds_toArray, List.set_cons_zero, List.set_cons_succ]
                  refine wpAnyH_take (i := 3) (v := .int .i64 P.1) rfl (by kernel_rfl) (by kernel_rfl) (by kernel_rfl) (fun _ _ _ h => h) (Or.inl ⟨by kernel_rfl, fun u hSu => by have hck := (HCk.out u hSu).cell (j := 0) rfl; go_simp⟩) B0k ?_
                  simp only [Act.put, List.setIfInBounds_toArray, List.set_cons_zero, List.set_cons_succ]
                  refine wpAnyH_take (i := 4) (v := .pointer (some ⟨cP, 3, none⟩)) rfl (by kernel_rfl) (by kernel_rfl) (by kernel_rfl) (fun _ _ _ h => h) (Or.inl ⟨by kernel_rfl, fun u hSu => by go_simp⟩) B0k ?_
                  simp only [Act.put, List.setIfInBounds_toArray, List.set_cons_zero, List.set_cons_succ]
                  refine wpAnyH_take (i := 5) (v := .agg #[.int .i64 P.2.2.1.1, .int .i64 P.2.2.1.2.1, po, ps]) rfl (by kernel_rfl) (by kernel_rfl) (by kernel_rfl) (fun _ _ _ h => h) (yieldsIf_load_mid (by kernel_rfl) _ _ rfl cP 3 (by go_simp) [.int .i64 P.2.2.1.1, .int .i64 P.2.2.1.2.1, po, ps] _ (fun u hSu => (HCk.out u hSu).mid 3 rfl) Tryz.underlying62 rfl (by kernel_rfl)) B0k ?_
                  simp only [Act.put, List.setIfInBounds_toArray, List.set_cons_zero, List.set_cons_succ]
                  refine wpAnyH_take (i := 7) (v := .pointer (some ⟨cP, 7, none⟩)) rfl (by kernel_rfl) (by kernel_rfl) (by kernel_rfl) (fun _ _ _ h => h) (Or.inl ⟨by kernel_rfl, fun u hSu => by go_simp⟩) B0k ?_
                  simp only [Act.put, List.setIfInBounds_toArray, List.set_cons_zero, List.set_cons_succ]
                  refine wpAnyH_take (i := 8) (v := pc) rfl (by kernel_rfl) (by kernel_rfl) (by kernel_rfl) (fun _ _ _ h => h) (Or.inl ⟨by kernel_rfl, fun u hSu => by have hck := (HCk.out u hSu).cell (j := 7) rfl; go_simp⟩) B0k ?_
                  simp only [Act.put, List.setIfInBounds_toArray, List.set_cons_zero, List.set_cons_succ]
                  refine wpAnyH_take (i := 9) (v := .int .i64 n) rfl (by kernel_rfl) (by kernel_rfl) (by kernel_rfl) (fun _ _ _ h => h) (Or.inl ⟨by kernel_rfl, fun u hSu => by go_simp⟩) B0k ?_
                  simp only [Act.put, List.setIfInBounds_toArray, List.set_cons_zero, List.set_cons_succ]
                  refine wpAnyH_ready (rs := [6]) (by kernel_rfl) (by simp) ?_
                  refine AllReadyH.cons (o := _) rfl (fun K hK => ?_) AllReadyH.nil
                  go_simp
                  refine (HBO.out _ (below_and Bk (Nat.le_refl _) B0k)).mono ?_
                  rintro e w15 ⟨v15, rfl, hv15, b15⟩
                  have B15 := below_and B0k (Nat.le_refl _) b15
                  try go_simp
                  refine hK.out _ _ B15 (fun hHeld => ?_)
                  clear hK K hHeld
                  refine wpAnyH_ready (rs := [10]) (by kernel_rfl) (by simp) ?_
                  refine AllReadyH.cons (o := _) rfl (fun K hK => ?_) AllReadyH.nil
                  go_simp
                  refine (HCE.out w15 v15 (below_and Bk (Nat.le_refl _) B15) hv15).mono ?_
                  rintro e w16 ⟨rfl, b16⟩
                  have B16 := below_and B15 (Nat.le_refl _) b16
                  try go_simp
                  refine hK.out _ _ B16 (fun hHeld => ?_)
                  clear hK K hHeld
                  generalize certL (rightV 2 P.2.1.1 P.2.1.2 P.1 (body P.2.2.1)) n P.2.2.2 = cv at *
                  cases cv with
                  | false =>
                    refine wpAnyH_take (i := 11) (v := .bool true) rfl (by kernel_rfl) (by kernel_rfl) (by kernel_rfl) (fun _ _ _ h => h) (Or.inl ⟨by kernel_rfl, fun u hSu => by go_simp⟩) B16 ?_
                    simp only [Act.put, List.setIfInBounds_toArray, List.set_cons_zero, List.set_cons_succ]
                    refine wpAnyH_done (by kernel_rfl) ?_ _
                    go_wp2_with fail
                    go_ret
                    exact ⟨by rw [HW.out, HWU1.out, HWP.out]; simp, HUW.out _ (below_and Bk (Nat.le_refl _) B16)⟩
                  | true =>
                    refine wpAnyH_take (i := 11) (v := .bool false) rfl (by kernel_rfl) (by kernel_rfl) (by kernel_rfl) (fun _ _ _ h => h) (Or.inl ⟨by kernel_rfl, fun u hSu => by go_simp⟩) B16 ?_
                    simp only [Act.put, List.setIfInBounds_toArray, List.set_cons_zero, List.set_cons_succ]
                    refine wpAnyH_done (by kernel_rfl) ?_ _
                    go_wp2_with fail
                    go_roundw
                    case rel => exact ⟨i + 1, P.1, by omega, by go_num, .inr ⟨i, P, rfl, HP.out, rfl⟩, by have := HLL.out; omega, by rw [HW.out, HWU1.out, HWP.out]; simp, HUW.out _ (below_and Bk (Nat.le_refl _) B16), below_and (below_and (below_and HB19.out (Nat.le_refl _) B0) (Nat.le_refl _) Bk) (Nat.le_refl _) B16⟩
                    case measure => simp [intOf]; omega
end Go.Proofs.YtgbfmccecnfooaaGreatDoor
