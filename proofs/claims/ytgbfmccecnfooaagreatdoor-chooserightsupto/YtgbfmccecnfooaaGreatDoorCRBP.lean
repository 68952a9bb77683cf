/- Same, of messages that differ in their signature alone. Made by mk13n.py. -/
import Derived.Test.YtgbfmccecnfooaaGreatDoorCRBA
import Derived.Test.YtgbfmccecnfooaaGreatDoorCRAU
import Derived.Test.YtgbfmccecnfooaaGreatDoorCRAN
import Derived.Test.YtgbfmccecnfooaaGreatDoorCRBH
import Derived.Test.YtgbfmccecnfooaaGreatDoorCRAQ
set_option linter.unusedSimpArgs false
set_option linter.unusedVariables false
namespace Go.Proofs.YtgbfmccecnfooaaGreatDoor
section
open Go.RowKit Oct Sha Bal
/-- Votes whose signers rise, each below n and right. -/
def certW (R : PVote → Bool) (n : Int) : Int → List PVote → Bool
  | _, [] => true
  | p, v :: vs => decide (p < v.1) && decide (v.1 < n) && R v && certW R n v.1 vs
def rightV (k x y s : Int) (l : List Int) (v : PVote) : Bool := verL (repL v.1) v.2 (sL ⟨#[118, 111, 116, 101]⟩) [numsL [k, x, y, s], l]
def certL (R : PVote → Bool) (n : Int) (ys : List PVote) : Bool := rgt n && decide ((ys.length : Int) = quo n) && certW R n (-1) ys
set_option maxRecDepth 10000 in
set_option maxHeartbeats 4000000 in
theorem vCert_some (w : World) (k x y s : Int) (v : Value) (l : List Int) (n : Int) (bb off cap : Nat) (ys : List PVote) (hv : Rd w v l) (hl : l.length ≤ 3000000) (hyl : 0 < ys.length) (hc : ys.length ≤ cap) (hm : cap ≤ maxLen) (hbb : bb < w.heap.size)
    (hx : ∀ (i : Nat) (a : PVote), ys[i]? = some a → ∃ r, r.length = 2 ∧ w.rangeAt bb (off + i * 2) r ∧ RVote Any w r a) (hT : Tab w) (hr : rgt n = true) (hq : (ys.length : Int) = quo n) :
    Calls Tryz.prog 60 #[.int .i64 k, .agg #[.int .i64 x, .int .i64 y], .int .i64 s, v, .slice (some ⟨bb, off, none⟩) ys.length cap, .int .i64 n] w fun e w' => e = .returned (.bool (certW (rightV k x y s l) n (-1) ys)) ∧ Below w.heap.size w w' := by
  have le := Nat.le_refl w.heap.size
  obtain ⟨ao, ac, rfl, hac⟩ := hv.form
  have HX := (show Hid (∀ (i : Nat) (a : PVote), ys[i]? = some a → ∃ r, r.length = 2 ∧ w.rangeAt bb (off + i * 2) r ∧ RVote Any w r a) from hx)
  have hlm : (ys.length : Int) ≤ 9223372036854775807 := by unfold maxLen at hm; omega
  have HR := (show Hid (∀ u : World, Calls Tryz.prog 30 #[.int .i64 n] u fun e w' => e = .returned (.bool true) ∧ w' = u) from fun u => Bb.right_yes u n hr)
  have HQ := (show Hid (∀ u : World, Calls Tryz.prog 40 #[.int .i64 n] u fun e w' => e = .returned (.int .i64 (ys.length : Int)) ∧ w' = u) from fun u => hq ▸ Bb.quorum_any u n)
  clear hx hr hq
  obtain ⟨w0, hw0⟩ : ∃ w0, w0 = w.alloc (.cells #[.int .i64 x, .int .i64 y] 23) := ⟨_, rfl⟩
  have ra : Row w0 w.heap.size 23 [.int .i64 x, .int .i64 y] := by rw [hw0]; exact Row.new w 23 _
  have B0 : Below w.heap.size w w0 := by rw [hw0]; exact below_alloc _ _
  have hll : ((ys.length : Int) == (ys.length : Int)) = true := by simp
  go_enter Tryz.func60, Tryz.ntmps60
  go_wp2_with fail
  rw [← hw0]
  clear hw0
  refine (HR.out _).mono ?_
  rintro e w0 ⟨rfl, rfl⟩
  go_wp2_with fail
  refine (HQ.out _).mono ?_
  rintro e w0 ⟨rfl, rfl⟩
  go_wp2_with fail
  go_loopw [13, 28] (fun o i wr => ∃ (q : Nat) (p : Int), q ≤ ys.length ∧ o = .int .i64 p ∧ i = .int .i64 q ∧ Hid (certW (rightV k x y s l) n (-1) ys = certW (rightV k x y s l) n p (ys.drop q)) ∧ Below w0.heap.size w0 wr) (fun _ i _ => ys.length - (intOf i).toNat)
  case atStart => exact ⟨0, -1, by omega, rfl, rfl, by show _ = _; rw [List.drop_zero], Below.refl _ _⟩
  case round =>
    clear HR HQ hll
    obtain ⟨q, p, hq, rfl, rfl, HC, hbw⟩ := hrel
    have hB := below_and B0 le hbw
    by_cases hql : q < ys.length
    · obtain ⟨a, ha⟩ : ∃ a, ys[q]? = some a := ⟨_, List.getElem?_eq_getElem hql⟩
      obtain ⟨r, _, hrng, g, rfl, hg⟩ := HX.out q a ha
      have hrng := rangeAt_block hrng (hB.block bb hbb)
      have HD := (show Hid (certW (rightV k x y s l) n (-1) ys = (decide (p < a.1) && decide (a.1 < n) && rightV k x y s l a && certW (rightV k x y s l) n a.1 (ys.drop (q + 1)))) by
        show _ = _
        rw [HC.out, List.drop_eq_getElem_cons hql]
        obtain ⟨_, e⟩ := List.getElem?_eq_some_iff.1 ha
        rw [e]
        rfl)
      have hso := hg.one
      have hrow0 := Row.new wr 42 [.int .i64 0, .slice none 0 0]
      have hgw := (hg.mv (Mv.below hB)).1
      have hvw := hv.below hB
      have hTw := hT.below hB
      have rb := ra.below hbw
      clear ha HC hg
      obtain ⟨ag, gap, rfl, hgap⟩ := hgw.form
      have hle : (a.1 ≤ p) ∨ (p < a.1) := by omega
      have hge : (n ≤ a.1) ∨ (a.1 < n) := by omega
      rcases hle with h1 | h1
      · have HF := (show Hid (certW (rightV k x y s l) n (-1) ys = false) by show _ = _; rw [HD.out, decide_eq_false (by omega)]; rfl)
        go_wp2_with (first
          | (refine wpList_load_mid rfl _ _ rfl bb (off + q * 2) rfl [.int .i64 a.1, .slice ag a.2.length gap] _ hrng Tryz.underlying42 rfl (by kernel_rfl) ?_)
          | (refine wl_store rfl _ _ _ rfl wr.heap.size [.int .i64 a.1, .slice ag a.2.length gap] rfl rfl _ _ hrow0 rfl (by kernel_rfl) (one2 hso) ?_; intro w5 hr5 hg5; have c0 := hr5.out.cell (j := 0) rfl; have c1 := hr5.out.cell (j := 1) rfl; have hb5 : Below wr.heap.size wr w5 := (below_alloc wr (.cells ([.int .i64 0, .slice none 0 0] : List Value).toArray 42)).trans (grown_below hg5 (by simp) (fun k hk => by cases hk; exact Nat.le_refl _)); have d0 := (rb.below hb5).cell (j := 0) rfl; have d1 := (rb.below hb5).cell (j := 1) rfl))
        go_ret
        exact ⟨by rw [HF.out]; rfl, below_and hB le hb5⟩
      rcases hge with h2 | h2
      · have HF := (show Hid (certW (rightV k x y s l) n (-1) ys = false) by show _ = _; rw [HD.out, decide_eq_false (show ¬ a.1 < n by omega), Bool.and_false]; rfl)
        go_wp2_with (first
          | (refine wpList_load_mid rfl _ _ rfl bb (off + q * 2) rfl [.int .i64 a.1, .slice ag a.2.length gap] _ hrng Tryz.underlying42 rfl (by kernel_rfl) ?_)
          | (refine wl_store rfl _ _ _ rfl wr.heap.size [.int .i64 a.1, .slice ag a.2.length gap] rfl rfl _ _ hrow0 rfl (by kernel_rfl) (one2 hso) ?_; intro w5 hr5 hg5; have c0 := hr5.out.cell (j := 0) rfl; have c1 := hr5.out.cell (j := 1) rfl; have hb5 : Below wr.heap.size wr w5 := (below_alloc wr (.cells ([.int .i64 0, .slice none 0 0] : List Value).toArray 42)).trans (grown_below hg5 (by simp) (fun k hk => by cases hk; exact Nat.le_refl _)); have d0 := (rb.below hb5).cell (j := 0) rfl; have d1 := (rb.below hb5).cell (j := 1) rfl))
        go_ret
        exact ⟨by rw [HF.out]; rfl, below_and hB le hb5⟩
      have hV := fun u hu => vRight_any u k x y s a.1 _ l (hvw.below hu) hl _ a.2 (hgw.below hu) (hTw.below hu)
      have hD := HD.out
      rw [decide_eq_true h1, decide_eq_true h2, Bool.true_and, Bool.true_and] at hD
      cases hR : rightV k x y s l a
      · rw [hR, Bool.false_and] at hD
        have HF := (show Hid (certW (rightV k x y s l) n (-1) ys = false) from hD)
        have HV := (show Hid (∀ u, Below wr.heap.size wr u → Calls Tryz.prog 70 #[.int .i64 k, .agg #[.int .i64 x, .int .i64 y], .int .i64 s, .slice ao l.length ac, .agg #[.int .i64 a.1, .slice ag a.2.length gap]] u fun e w' => e = .returned (.bool false) ∧ Below u.heap.size u w') from fun u hu => by
          have := hV u hu
          rwa [show verL (repL a.1) a.2 (sL ⟨#[118, 111, 116, 101]⟩) [numsL [k, x, y, s], l] = false from hR] at this)
        clear hV hD hR HD
        go_wp2_with (first
          | (refine wpList_load_mid rfl _ _ rfl bb (off + q * 2) rfl [.int .i64 a.1, .slice ag a.2.length gap] _ hrng Tryz.underlying42 rfl (by kernel_rfl) ?_)
          | (refine wl_store rfl _ _ _ rfl wr.heap.size [.int .i64 a.1, .slice ag a.2.length gap] rfl rfl _ _ hrow0 rfl (by kernel_rfl) (one2 hso) ?_; intro w5 hr5 hg5; have c0 := hr5.out.cell (j := 0) rfl; have c1 := hr5.out.cell (j := 1) rfl; have hb5 : Below wr.heap.size wr w5 := (below_alloc wr (.cells ([.int .i64 0, .slice none 0 0] : List Value).toArray 42)).trans (grown_below hg5 (by simp) (fun k hk => by cases hk; exact Nat.le_refl _)); have d0 := (rb.below hb5).cell (j := 0) rfl; have d1 := (rb.below hb5).cell (j := 1) rfl))
        refine (HV.out _ hb5).mono ?_
        rintro e w6 ⟨rfl, hb6⟩
        go_wp2_with fail
        go_ret
        exact ⟨by rw [HF.out]; rfl, below_and (below_and hB le hb5) le hb6⟩
      · rw [hR, Bool.true_and] at hD
        have HF := (show Hid (certW (rightV k x y s l) n (-1) ys = certW (rightV k x y s l) n a.1 (ys.drop (q + 1))) from hD)
        have HV := (show Hid (∀ u, Below wr.heap.size wr u → Calls Tryz.prog 70 #[.int .i64 k, .agg #[.int .i64 x, .int .i64 y], .int .i64 s, .slice ao l.length ac, .agg #[.int .i64 a.1, .slice ag a.2.length gap]] u fun e w' => e = .returned (.bool true) ∧ Below u.heap.size u w') from fun u hu => by
          have := hV u hu
          rwa [show verL (repL a.1) a.2 (sL ⟨#[118, 111, 116, 101]⟩) [numsL [k, x, y, s], l] = true from hR] at this)
        clear hV hD hR HD
        go_wp2_with (first
          | (refine wpList_load_mid rfl _ _ rfl bb (off + q * 2) rfl [.int .i64 a.1, .slice ag a.2.length gap] _ hrng Tryz.underlying42 rfl (by kernel_rfl) ?_)
          | (refine wl_store rfl _ _ _ rfl wr.heap.size [.int .i64 a.1, .slice ag a.2.length gap] rfl rfl _ _ hrow0 rfl (by kernel_rfl) (one2 hso) ?_; intro w5 hr5 hg5; have c0 := hr5.out.cell (j := 0) rfl; have c1 := hr5.out.cell (j := 1) rfl; have hb5 : Below wr.heap.size wr w5 := (below_alloc wr (.cells ([.int .i64 0, .slice none 0 0] : List Value).toArray 42)).trans (grown_below hg5 (by simp) (fun k hk => by cases hk; exact Nat.le_refl _)); have d0 := (rb.below hb5).cell (j := 0) rfl; have d1 := (rb.below hb5).cell (j := 1) rfl))
        refine (HV.out _ hb5).mono ?_
        rintro e w6 ⟨rfl, hb6⟩
        have c6 := (hr5.out.below hb6).cell (j := 0) rfl
        have hb7 := below_and hbw (Nat.le_refl _) (below_and hb5 (Nat.le_refl _) hb6)
        clear c0 c1 d0 d1 hr5 hg5
        go_wp2_with fail
        go_roundw
        case rel => exact ⟨q + 1, a.1, by omega, rfl, by go_num, HF, hb7⟩
        case measure => simp [intOf]; omega
    · rw [List.drop_eq_nil_of_le (by omega)] at HC
      have HF := (show Hid (certW (rightV k x y s l) n (-1) ys = true) from HC.out)
      clear HC
      go_wp2_with fail
      go_ret
      exact ⟨by rw [HF.out]; rfl, hB⟩
/-- vote.Cert. -/
theorem vCert_any (w : World) (k x y s : Int) (v : Value) (l : List Int) (n : Int) (vv : Value) (ys : List PVote) (hv : Rd w v l) (hl : l.length ≤ 3000000) (hy : RL RVote 2 Any w vv ys) (hT : Tab w) :
    Calls Tryz.prog 60 #[.int .i64 k, .agg #[.int .i64 x, .int .i64 y], .int .i64 s, v, vv, .int .i64 n] w fun e w' => e = .returned (.bool (certL (rightV k x y s l) n ys)) ∧ Below w.heap.size w w' := by
  by_cases hr : rgt n = true
  · by_cases hq : (ys.length : Int) = quo n
    · rw [certL, hr, decide_eq_true hq, Bool.true_and, Bool.true_and]
      have h5 := fau_ge hr
      have h6 := quo_yes hr
      have hyl : 0 < ys.length := by omega
      obtain ⟨b1, o1, c1, rfl, hc1, hm1, _, hb1, hx1⟩ := hy.at hyl
      exact vCert_some w k x y s v l n b1 o1 c1 ys hv hl hyl hc1 hm1 hb1 hx1 hT hr hq
    · rw [certL, hr, decide_eq_false hq, Bool.true_and, Bool.false_and]
      have HR := (show Hid (∀ u : World, Calls Tryz.prog 30 #[.int .i64 n] u fun e w' => e = .returned (.bool true) ∧ w' = u) from fun u => Bb.right_yes u n hr)
      have HQ := (show Hid (∀ u : World, Calls Tryz.prog 40 #[.int .i64 n] u fun e w' => e = .returned (.int .i64 (quo n)) ∧ w' = u) from fun u => Bb.quorum_any u n)
      have hne : ((ys.length : Int) == quo n) = false := by rw [beq_eq_false_iff_ne]; exact hq
      obtain ⟨va, vc, rfl, hvc⟩ := hy.form
      obtain ⟨ao, ac, rfl, hac⟩ := hv.form
      have b0 := below_alloc w (.cells #[.int .i64 x, .int .i64 y] 23)
      clear hr hq
      generalize quo n = Q at *
      go_enter Tryz.func60, Tryz.ntmps60
      go_wp2_with fail
      refine (HR.out _).mono ?_
      rintro e w0 ⟨rfl, rfl⟩
      go_wp2_with fail
      refine (HQ.out _).mono ?_
      rintro e w0 ⟨rfl, rfl⟩
      go_wp2_with fail
      go_ret
      exact ⟨rfl, b0⟩
  · rw [certL, rgt_no hr, Bool.false_and, Bool.false_and]
    have HR := (show Hid (∀ u : World, Calls Tryz.prog 30 #[.int .i64 n] u fun e w' => e = .returned (.bool false) ∧ w' = u) from fun u => Bb.right_not u n hr)
    obtain ⟨va, vc, rfl, hvc⟩ := hy.form
    obtain ⟨ao, ac, rfl, hac⟩ := hv.form
    have b0 := below_alloc w (.cells #[.int .i64 x, .int .i64 y] 23)
    clear hr
    go_enter Tryz.func60, Tryz.ntmps60
    go_wp2_with fail
    refine (HR.out _).mono ?_
    rintro e w0 ⟨rfl, rfl⟩
    go_wp2_with fail
    go_ret
    exact ⟨rfl, b0⟩
end
section
open Go.RowKit Oct
set_option maxRecDepth 10000 in
set_option maxHeartbeats 4000000 in
/-- SameReport, of reports with unlike signatures. -/
theorem sameReport_ne (w : World) (r1 r2 : List Value) (x : PRep) (g : List Int) (hne : x.2.2.2.2.2.2 ≠ g) (h1 : RRep Any w r1 x) (h2 : RRep Any w r2 (repSig x g)) :
    Calls Tryz.prog 10 #[.agg r1.toArray, .agg r2.toArray] w fun e w' => e = .returned (.bool false) ∧ Below w.heap.size w w' := by
  obtain ⟨d1, s1, p1, g1, rfl, hd1, hs1, hp1, hg1⟩ := h1
  obtain ⟨d2, s2, p2, g2, e2', hd2', hs2', hp2', hg2'⟩ := h2
  have e2 : r2 = [.int .i64 x.1.1, .int .i64 x.1.2, .int .i64 x.2.1, .int .i64 x.2.2.1, d2, s2, p2, g2] := e2'
  have hd2 : RT Any w d2 x.2.2.2.1 := hd2'
  have hs2 : RL RVote 2 Any w s2 x.2.2.2.2.1 := hs2'
  have hp2 : RL RPrep 8 Any w p2 x.2.2.2.2.2.1 := hp2'
  have hg2 : RT Any w g2 g := hg2'
  clear e2' hd2' hs2' hp2' hg2'
  subst e2
  obtain ⟨ao1, ca1, rfl, hm1⟩ := hp1.form
  obtain ⟨ao2, ca2, rfl, hm2⟩ := hp2.form
  obtain ⟨w2, hw2⟩ : ∃ w2, w2 = (w.alloc (.cells #[.int .i64 x.1.1, .int .i64 x.1.2, .int .i64 x.2.1, .int .i64 x.2.2.1, d1, s1, .slice ao1 x.2.2.2.2.2.1.length ca1, g1] 28)).alloc (.cells #[.int .i64 x.1.1, .int .i64 x.1.2, .int .i64 x.2.1, .int .i64 x.2.2.1, d2, s2, .slice ao2 x.2.2.2.2.2.1.length ca2, g2] 28) := ⟨_, rfl⟩
  have ra : Row w2 w.heap.size 28 [.int .i64 x.1.1, .int .i64 x.1.2, .int .i64 x.2.1, .int .i64 x.2.2.1, d1, s1, .slice ao1 x.2.2.2.2.2.1.length ca1, g1] := by rw [hw2]; exact row_alloc (Row.new w 28 _) _
  have rb : Row w2 (w.heap.size + 1) 28 [.int .i64 x.1.1, .int .i64 x.1.2, .int .i64 x.2.1, .int .i64 x.2.2.1, d2, s2, .slice ao2 x.2.2.2.2.2.1.length ca2, g2] := by
    rw [hw2]
    have := Row.new (w.alloc (.cells #[.int .i64 x.1.1, .int .i64 x.1.2, .int .i64 x.2.1, .int .i64 x.2.2.1, d1, s1, .slice ao1 x.2.2.2.2.2.1.length ca1, g1] 28)) 28 [.int .i64 x.1.1, .int .i64 x.1.2, .int .i64 x.2.1, .int .i64 x.2.2.1, d2, s2, .slice ao2 x.2.2.2.2.2.1.length ca2, g2]
    simpa using this
  have hB : Below w.heap.size w w2 := by rw [hw2]; exact ((Below.refl _ w).alloc (Nat.le_refl _) _).alloc (by simp) _
  have sD := same_eq_any w2 d1 d2 _ (hd1.mv (Mv.below hB)).1 (hd2.mv (Mv.below hB)).1
  have sS := sameVotes_eq w2 s1 s2 _ (hs1.mv mov_vote hB.size (Mv.below hB)) (hs2.mv mov_vote hB.size (Mv.below hB))
  have hbn := balNe_eq x.1.1 x.1.2
  have hn1 : (x.2.1 != x.2.1) = false := by simp
  have hn2 : (x.2.2.1 != x.2.2.1) = false := by simp
  have hn3 : ((x.2.2.2.2.2.1.length : Int) != (x.2.2.2.2.2.1.length : Int)) = false := by simp
  go_enter Tryz.func10, Tryz.ntmps10
  go_upto_region 1 with fail
  rw [← hw2]
  clear hw2
  have a2 := ra.cell (j := 2) rfl; have a3 := ra.cell (j := 3) rfl; have a4 := ra.cell (j := 4) rfl; have a5 := ra.cell (j := 5) rfl
  have b2 := rb.cell (j := 2) rfl; have b3 := rb.cell (j := 3) rfl; have b4 := rb.cell (j := 4) rfl; have b5 := rb.cell (j := 5) rfl
  go_wp2_with (first
    | (refine wl_part rfl _ _ rfl w.heap.size 0 rfl _ _ ra [.int .i64 x.1.1, .int .i64 x.1.2] rfl _ Tryz.underlying23 rfl (by kernel_rfl) ?_)
    | (refine wl_part rfl _ _ rfl (w.heap.size + 1) 0 rfl _ _ rb [.int .i64 x.1.1, .int .i64 x.1.2] rfl _ Tryz.underlying23 rfl (by kernel_rfl) ?_))
  refine sD.mono ?_
  rintro e w3 ⟨rfl, rfl⟩
  clear sD
  go_wp2_with fail
  refine sS.mono ?_
  rintro e w4 ⟨rfl, hb4⟩
  have ra4 := ra.below hb4
  have rb4 := rb.below hb4
  have hB4 := below_and hB (Nat.le_refl _) hb4
  have a6 := ra4.cell (j := 6) rfl; have a7 := ra4.cell (j := 7) rfl
  have b6 := rb4.cell (j := 6) rfl; have b7 := rb4.cell (j := 7) rfl
  have sG := same_any w4 g1 g2 _ _ (hg1.mv (Mv.below hB4)).1 (hg2.mv (Mv.below hB4)).1
  rw [decide_eq_false hne] at sG
  clear sS a2 a3 a4 a5 b2 b3 b4 b5 ra rb hB hb4
  go_wp2_with fail
  refine sG.mono ?_
  rintro e w5 ⟨rfl, rfl⟩
  go_wp2_with fail
  go_ret
  exact ⟨rfl, hB4⟩
set_option maxRecDepth 20000 in
set_option maxHeartbeats 8000000 in
/-- Same, of messages whose own signatures are unlike. -/
theorem sameMsg_ns (w : World) (m : PMsg) (s t : SV) (g : List Int) (hne : m.sig ≠ g) (hs : SOk Any w m s) (ht : SOk Any w { m with sig := g } t) :
    Calls Tryz.prog 64 #[.agg (mc m s).toArray, .agg (mc m t).toArray] w fun e w' => e = .returned (.bool false) ∧ Below w.heap.size w w' := by
  obtain ⟨w2, hw2⟩ : ∃ w2, w2 = (w.alloc (.cells (mc m s).toArray 72)).alloc (.cells (mc m t).toArray 72) := ⟨_, rfl⟩
  have ra : Row w2 w.heap.size 72 (mc m s) := by rw [hw2]; exact row_alloc (Row.new w 72 _) _
  have rb : Row w2 (w.heap.size + 1) 72 (mc m t) := by
    rw [hw2]
    have := Row.new (w.alloc (.cells (mc m s).toArray 72)) 72 (mc m t)
    simpa using this
  have hB : Below w.heap.size w w2 := by rw [hw2]; exact ((Below.refl _ w).alloc (Nat.le_refl _) _).alloc (by simp) _
  have hbn := balNe_eq m.bal.1 m.bal.2
  have hnkind : (m.kind != m.kind) = false := by simp
  have hnslot : (m.slot != m.slot) = false := by simp
  have hnfrm : (m.frm != m.frm) = false := by simp
  have hnto : (m.to != m.to) = false := by simp
  have hnidx : (m.idx != m.idx) = false := by simp
  have hncnt : (m.cnt != m.cnt) = false := by simp
  go_enter Tryz.func64, Tryz.ntmps64
  go_upto_region 1 with fail
  rw [← hw2]
  clear hw2
  generalize hN0 : w.heap.size = N0 at ra rb ⊢
  generalize hN1 : N0 + 1 = N1 at rb ⊢
  have a0 := ra.cell (j := 0) rfl; have b0 := rb.cell (j := 0) rfl
  have a3 := ra.cell (j := 3) rfl; have b3 := rb.cell (j := 3) rfl
  have a4 := ra.cell (j := 4) rfl; have b4 := rb.cell (j := 4) rfl
  have a5 := ra.cell (j := 5) rfl; have b5 := rb.cell (j := 5) rfl
  have a6 := ra.cell (j := 6) rfl; have b6 := rb.cell (j := 6) rfl
  have a7 := ra.cell (j := 7) rfl; have b7 := rb.cell (j := 7) rfl
  go_wp2_with (first
    | (refine wl_part_w (by rfl) _ _ rfl N0 1 rfl _ _ ra [.int .i64 m.bal.1, .int .i64 m.bal.2] rfl _ Tryz.underlying23 rfl (by kernel_rfl) ?_)
    | (refine wl_part_w (by rfl) _ _ rfl N1 1 rfl _ _ rb [.int .i64 m.bal.1, .int .i64 m.bal.2] rfl _ Tryz.underlying23 rfl (by kernel_rfl) ?_)
    | (refine wl_part rfl _ _ rfl N0 8 rfl _ _ ra [.int .i64 m.req.1, .int .i64 m.req.2.1, s.o, s.g] rfl _ Tryz.underlying62 rfl (by kernel_rfl) ?_)
    | (refine wl_part rfl _ _ rfl N1 8 rfl _ _ rb [.int .i64 m.req.1, .int .i64 m.req.2.1, t.o, t.g] rfl _ Tryz.underlying62 rfl (by kernel_rfl) ?_))
  clear a0 a3 a4 a5 a6 a7 b0 b3 b4 b5 b6 b7 hbn hnkind hnslot hnfrm hnto hnidx hncnt
  refine (sameReq_eq w2 [.int .i64 m.req.1, .int .i64 m.req.2.1, s.o, s.g] [.int .i64 m.req.1, .int .i64 m.req.2.1, t.o, t.g] m.req ⟨_, _, rfl, hs.o.mv (Mv.below hB), hs.g.mv (Mv.below hB)⟩ ⟨_, _, rfl, ht.o.mv (Mv.below hB), ht.g.mv (Mv.below hB)⟩).mono ?_
  rintro e w3 ⟨rfl, hb3⟩
  have ra := ra.below hb3
  have rb := rb.below hb3
  have hB := below_and hB (Nat.le_refl _) hb3
  clear hb3
  go_wp2_with (first
    | (refine wl_part_w (by rfl) _ _ rfl N0 12 rfl _ _ ra [.int .i64 m.oth.1, .int .i64 m.oth.2.1, s.o', s.g'] rfl _ Tryz.underlying62 rfl (by kernel_rfl) ?_)
    | (refine wl_part_w (by rfl) _ _ rfl N1 12 rfl _ _ rb [.int .i64 m.oth.1, .int .i64 m.oth.2.1, t.o', t.g'] rfl _ Tryz.underlying62 rfl (by kernel_rfl) ?_))
  refine (sameReq_eq w3 [.int .i64 m.oth.1, .int .i64 m.oth.2.1, s.o', s.g'] [.int .i64 m.oth.1, .int .i64 m.oth.2.1, t.o', t.g'] m.oth ⟨_, _, rfl, hs.o'.mv (Mv.below hB), hs.g'.mv (Mv.below hB)⟩ ⟨_, _, rfl, ht.o'.mv (Mv.below hB), ht.g'.mv (Mv.below hB)⟩).mono ?_
  rintro e w4 ⟨rfl, hb4⟩
  have ra := ra.below hb4
  have rb := rb.below hb4
  have hB := below_and hB (Nat.le_refl _) hb4
  clear hb4
  have a16 := ra.cell (j := 16) rfl; have b16 := rb.cell (j := 16) rfl; have a17 := ra.cell (j := 17) rfl; have b17 := rb.cell (j := 17) rfl; have a18 := ra.cell (j := 18) rfl; have b18 := rb.cell (j := 18) rfl
  go_wp2_with fail
  refine (same_eq_any w4 s.d t.d _ (hs.d.mv (Mv.below hB)).1 (ht.d.mv (Mv.below hB)).1).mono ?_
  rintro e w5 ⟨rfl, rfl⟩
  go_wp2_with fail
  have sG := same_any w5 s.s t.s m.sig g (hs.s.mv (Mv.below hB)).1 (ht.s.mv (Mv.below hB)).1
  rw [decide_eq_false hne] at sG
  refine sG.mono ?_
  rintro e w5 ⟨rfl, rfl⟩
  go_wp2_with fail
  go_ret
  exact ⟨rfl, hB⟩
set_option maxRecDepth 20000 in
set_option maxHeartbeats 8000000 in
/-- Same, of messages whose one reports' signatures are unlike. -/
theorem sameMsg_nr (w : World) (m : PMsg) (s t : SV) (r : PRep) (g : List Int) (hr : m.reps = [r]) (hne : r.2.2.2.2.2.2 ≠ g) (hs : SOk Any w m s) (ht : SOk Any w { m with reps := [repSig r g] } t) :
    Calls Tryz.prog 64 #[.agg (mc m s).toArray, .agg (mc m t).toArray] w fun e w' => e = .returned (.bool false) ∧ Below w.heap.size w w' := by
  obtain ⟨w2, hw2⟩ : ∃ w2, w2 = (w.alloc (.cells (mc m s).toArray 72)).alloc (.cells (mc m t).toArray 72) := ⟨_, rfl⟩
  have ra : Row w2 w.heap.size 72 (mc m s) := by rw [hw2]; exact row_alloc (Row.new w 72 _) _
  have rb : Row w2 (w.heap.size + 1) 72 (mc m t) := by
    rw [hw2]
    have := Row.new (w.alloc (.cells (mc m s).toArray 72)) 72 (mc m t)
    simpa using this
  have hB : Below w.heap.size w w2 := by rw [hw2]; exact ((Below.refl _ w).alloc (Nat.le_refl _) _).alloc (by simp) _
  have htn : RL RInt 1 Any w t.n m.order := ht.n
  have htp : RL RReq 4 Any w t.p m.picks := ht.p
  have hbn := balNe_eq m.bal.1 m.bal.2
  have hnkind : (m.kind != m.kind) = false := by simp
  have hnslot : (m.slot != m.slot) = false := by simp
  have hnfrm : (m.frm != m.frm) = false := by simp
  have hnto : (m.to != m.to) = false := by simp
  have hnidx : (m.idx != m.idx) = false := by simp
  have hncnt : (m.cnt != m.cnt) = false := by simp
  go_enter Tryz.func64, Tryz.ntmps64
  go_upto_region 1 with fail
  rw [← hw2]
  clear hw2
  generalize hN0 : w.heap.size = N0 at ra rb ⊢
  generalize hN1 : N0 + 1 = N1 at rb ⊢
  have a0 := ra.cell (j := 0) rfl; have b0 := rb.cell (j := 0) rfl
  have a3 := ra.cell (j := 3) rfl; have b3 := rb.cell (j := 3) rfl
  have a4 := ra.cell (j := 4) rfl; have b4 := rb.cell (j := 4) rfl
  have a5 := ra.cell (j := 5) rfl; have b5 := rb.cell (j := 5) rfl
  have a6 := ra.cell (j := 6) rfl; have b6 := rb.cell (j := 6) rfl
  have a7 := ra.cell (j := 7) rfl; have b7 := rb.cell (j := 7) rfl
  go_wp2_with (first
    | (refine wl_part_w (by rfl) _ _ rfl N0 1 rfl _ _ ra [.int .i64 m.bal.1, .int .i64 m.bal.2] rfl _ Tryz.underlying23 rfl (by kernel_rfl) ?_)
    | (refine wl_part_w (by rfl) _ _ rfl N1 1 rfl _ _ rb [.int .i64 m.bal.1, .int .i64 m.bal.2] rfl _ Tryz.underlying23 rfl (by kernel_rfl) ?_)
    | (refine wl_part rfl _ _ rfl N0 8 rfl _ _ ra [.int .i64 m.req.1, .int .i64 m.req.2.1, s.o, s.g] rfl _ Tryz.underlying62 rfl (by kernel_rfl) ?_)
    | (refine wl_part rfl _ _ rfl N1 8 rfl _ _ rb [.int .i64 m.req.1, .int .i64 m.req.2.1, t.o, t.g] rfl _ Tryz.underlying62 rfl (by kernel_rfl) ?_))
  clear a0 a3 a4 a5 a6 a7 b0 b3 b4 b5 b6 b7 hbn hnkind hnslot hnfrm hnto hnidx hncnt
  refine (sameReq_eq w2 [.int .i64 m.req.1, .int .i64 m.req.2.1, s.o, s.g] [.int .i64 m.req.1, .int .i64 m.req.2.1, t.o, t.g] m.req ⟨_, _, rfl, hs.o.mv (Mv.below hB), hs.g.mv (Mv.below hB)⟩ ⟨_, _, rfl, ht.o.mv (Mv.below hB), ht.g.mv (Mv.below hB)⟩).mono ?_
  rintro e w3 ⟨rfl, hb3⟩
  have ra := ra.below hb3
  have rb := rb.below hb3
  have hB := below_and hB (Nat.le_refl _) hb3
  clear hb3
  go_wp2_with (first
    | (refine wl_part_w (by rfl) _ _ rfl N0 12 rfl _ _ ra [.int .i64 m.oth.1, .int .i64 m.oth.2.1, s.o', s.g'] rfl _ Tryz.underlying62 rfl (by kernel_rfl) ?_)
    | (refine wl_part_w (by rfl) _ _ rfl N1 12 rfl _ _ rb [.int .i64 m.oth.1, .int .i64 m.oth.2.1, t.o', t.g'] rfl _ Tryz.underlying62 rfl (by kernel_rfl) ?_))
  refine (sameReq_eq w3 [.int .i64 m.oth.1, .int .i64 m.oth.2.1, s.o', s.g'] [.int .i64 m.oth.1, .int .i64 m.oth.2.1, t.o', t.g'] m.oth ⟨_, _, rfl, hs.o'.mv (Mv.below hB), hs.g'.mv (Mv.below hB)⟩ ⟨_, _, rfl, ht.o'.mv (Mv.below hB), ht.g'.mv (Mv.below hB)⟩).mono ?_
  rintro e w4 ⟨rfl, hb4⟩
  have ra := ra.below hb4
  have rb := rb.below hb4
  have hB := below_and hB (Nat.le_refl _) hb4
  clear hb4
  have a16 := ra.cell (j := 16) rfl; have b16 := rb.cell (j := 16) rfl; have a17 := ra.cell (j := 17) rfl; have b17 := rb.cell (j := 17) rfl; have a18 := ra.cell (j := 18) rfl; have b18 := rb.cell (j := 18) rfl
  go_wp2_with fail
  refine (same_eq_any w4 s.d t.d _ (hs.d.mv (Mv.below hB)).1 (ht.d.mv (Mv.below hB)).1).mono ?_
  rintro e w5 ⟨rfl, rfl⟩
  go_wp2_with fail
  refine (same_eq_any _ s.s t.s _ (hs.s.mv (Mv.below hB)).1 (ht.s.mv (Mv.below hB)).1).mono ?_
  rintro e w5 ⟨rfl, rfl⟩
  go_wp2_with fail
  refine (sameVotes_eq _ s.c t.c _ (hs.c.mv mov_vote hB.size (Mv.below hB)) (ht.c.mv mov_vote hB.size (Mv.below hB))).mono ?_
  rintro e w6 ⟨rfl, hb6⟩
  have ra := ra.below hb6
  have rb := rb.below hb6
  have hB := below_and hB (Nat.le_refl _) hb6
  clear hb6 a16 b16 a17 b17 a18 b18
  have a19 := ra.cell (j := 19) rfl; have b19 := rb.cell (j := 19) rfl
  go_wp2_with fail
  refine (sameVotes_eq _ s.v t.v _ (hs.v.mv mov_vote hB.size (Mv.below hB)) (ht.v.mv mov_vote hB.size (Mv.below hB))).mono ?_
  rintro e w7 ⟨rfl, hb7⟩
  have ra := ra.below hb7
  have rb := rb.below hb7
  have hB := below_and hB (Nat.le_refl _) hb7
  clear hb7 a19 b19
  have a20 := ra.cell (j := 20) rfl; have b20 := rb.cell (j := 20) rfl; have a21 := ra.cell (j := 21) rfl; have b21 := rb.cell (j := 21) rfl; have a22 := ra.cell (j := 22) rfl; have b22 := rb.cell (j := 22) rfl
  obtain ⟨xn, cn, hvn, _⟩ := hs.n.form
  obtain ⟨yn, dn, hun, _⟩ := htn.form
  rw [hvn] at a20
  rw [hun] at b20
  have hnn : ((m.order.length : Int) != (m.order.length : Int)) = false := by simp
  have hlmn : (m.order.length : Int) ≤ 9223372036854775807 := rl_len hs.n
  obtain ⟨xp, cp, hvp, _⟩ := hs.p.form
  obtain ⟨yp, dp, hup, _⟩ := htp.form
  rw [hvp] at a21
  rw [hup] at b21
  have hnp : ((m.picks.length : Int) != (m.picks.length : Int)) = false := by simp
  have hlmp : (m.picks.length : Int) ≤ 9223372036854775807 := rl_len hs.p
  obtain ⟨xl, cl, hvl, _⟩ := hs.l.form
  obtain ⟨yl, dl, hul, _⟩ := ht.l.form
  have hlen1 : m.reps.length = 1 := by rw [hr]; rfl
  have hul : t.l = .slice yl m.reps.length dl := by rw [hlen1]; exact hul
  have HL1 := (show Hid (m.reps.length = 1) from hlen1)
  clear hlen1
  rw [hvl] at a22
  rw [hul] at b22
  have hnl : ((m.reps.length : Int) != (m.reps.length : Int)) = false := by simp
  have hlml : (m.reps.length : Int) ≤ 9223372036854775807 := rl_len hs.l
  have HA := (show Hid (Row w7 N0 72 (mc m s)) from ra)
  have HB := (show Hid (Row w7 N1 72 (mc m t)) from rb)
  have HVN := (show Hid _ from hvn); have HUN := (show Hid _ from hun); have HVP := (show Hid _ from hvp); have HUP := (show Hid _ from hup); have HVL := (show Hid _ from hvl); have HUL := (show Hid _ from hul)
  have h0w := ra.lt
  have h1w := rb.lt
  have HRR := (show Hid (m.reps = [r]) from hr)
  clear ra rb hvn hun hvp hup hvl hul hr
  go_wp2_with fail
  go_loopw [129] (fun i wr => ∃ q : Nat, q ≤ m.order.length ∧ i = .int .i64 q ∧ Below w7.heap.size w7 wr) (fun i _ => m.order.length - (intOf i).toNat)
  case atStart => exact ⟨0, by omega, rfl, Below.refl _ _⟩
  case round =>
    obtain ⟨q, hq, rfl, hbr⟩ := hrel
    have hBr := below_and hB (Nat.le_refl _) hbr
    by_cases hql : q < m.order.length
    · obtain ⟨a, ha⟩ : ∃ a, m.order[q]? = some a := ⟨_, List.getElem?_eq_getElem hql⟩
      obtain ⟨b1, o1, c1, hw1, _, _, _, hb1, hx1⟩ := hs.n.at (by omega)
      obtain ⟨b2, o2, c2, hw2, _, _, _, hb2, hx2⟩ := htn.at (by omega)
      rw [HVN.out] at hw1
      rw [HUN.out] at hw2
      injection hw1 with e1 e2 e3
      injection hw2 with f1 f2 f3
      subst e1 e3 f1 f3
      obtain ⟨r1, _, y1, hr1⟩ := hx1 q a ha
      obtain ⟨r2, _, y2, hr2⟩ := hx2 q a ha
      have hr1 : r1 = [.int .i64 a] := hr1
      have hr2 : r2 = [.int .i64 a] := hr2
      subst hr1 hr2
      have d0 := rangeAt_block y1 (hBr.block b1 hb1) 0 _ rfl
      have d1 := rangeAt_block y2 (hBr.block b2 hb2) 0 _ rfl
      simp only [Nat.mul_one, Nat.add_zero] at d0 d1
      have e20 := (hbr.cell (p := ⟨N0, 20, none⟩) h0w).trans a20
      have f20 := (hbr.cell (p := ⟨N1, 20, none⟩) h1w).trans b20
      have hna : (a != a) = false := by simp
      clear hx1 hx2 y1 y2 ha
      go_wp2_with fail
      go_quiet (fail)
      go_wp2_with fail
      go_roundw
      case rel => exact ⟨q + 1, by omega, by go_num, bel_dn hbr _⟩
      case measure => simp [intOf]; omega
    · have e21 := (hbr.cell (p := ⟨N0, 21, none⟩) h0w).trans a21
      go_wp2_with fail
      go_loopw [147] (fun i wr => ∃ q : Nat, q ≤ m.picks.length ∧ i = .int .i64 q ∧ Below w7.heap.size w7 wr) (fun i _ => m.picks.length - (intOf i).toNat)
      case atStart => exact ⟨0, by omega, rfl, hbr⟩
      case round =>
        clear hbr hBr e21 hql hq
        obtain ⟨q, hq, rfl, hbr⟩ := hrel
        have hBr := below_and hB (Nat.le_refl _) hbr
        by_cases hql : q < m.picks.length
        · obtain ⟨a, ha⟩ : ∃ a, m.picks[q]? = some a := ⟨_, List.getElem?_eq_getElem hql⟩
          obtain ⟨b1, o1, c1, hw1, _, _, _, hb1, hx1⟩ := hs.p.at (by omega)
          obtain ⟨b2, o2, c2, hw2, _, _, _, hb2, hx2⟩ := htp.at (by omega)
          rw [HVP.out] at hw1
          rw [HUP.out] at hw2
          injection hw1 with e1 e2 e3
          injection hw2 with f1 f2 f3
          subst e1 e3 f1 f3
          obtain ⟨r1, _, y1, hr1⟩ := hx1 q a ha
          obtain ⟨r2, _, y2, hr2⟩ := hx2 q a ha
          have hK := (show Hid (∀ u, Below w7.heap.size w7 u → Calls Tryz.prog 28 #[.agg r1.toArray, .agg r2.toArray] u fun e w' => e = .returned (.bool true) ∧ Below u.heap.size u w') from fun u hu => by
            have hbu := below_and hB (Nat.le_refl _) hu
            exact sameReq_eq u r1 r2 a (mov_req _ _ _ _ _ _ hr1 hbu.size (Mv.below hbu)) (mov_req _ _ _ _ _ _ hr2 hbu.size (Mv.below hbu)))
          obtain ⟨vo1, vg1, rfl, _, _⟩ := hr1
          obtain ⟨vo2, vg2, rfl, _, _⟩ := hr2
          have y1 := rangeAt_block y1 (hBr.block b1 hb1)
          have y2 := rangeAt_block y2 (hBr.block b2 hb2)
          have e21 := (hbr.cell (p := ⟨N0, 21, none⟩) h0w).trans a21
          have f21 := (hbr.cell (p := ⟨N1, 21, none⟩) h1w).trans b21
          have p0 := y1 0 _ rfl; have q0 := y2 0 _ rfl
          have p1 := y1 1 _ rfl; have q1 := y2 1 _ rfl
          have p2 := y1 2 _ rfl; have q2 := y2 2 _ rfl
          have p3 := y1 3 _ rfl; have q3 := y2 3 _ rfl
          simp only [Nat.add_zero] at p0 q0
          have hdr : Below w7.heap.size w7 wr.drew := hbr.trans ⟨rfl, rfl, rfl, Nat.le_refl _, fun _ _ => rfl⟩
          clear hx1 hx2 y1 y2 ha
          go_wp2_with fail
          have SK := (show Hid (∀ u, Below wr.heap.size wr u → u.cell? ⟨N0, 21, none⟩ = some (.slice (some ⟨b1, o1, none⟩) m.picks.length cp) ∧ u.cell? ⟨N1, 21, none⟩ = some (.slice (some ⟨b2, o2, none⟩) m.picks.length dp) ∧ u.cell? ⟨b1, o1 + q * 4, none⟩ = some (Value.int .i64 a.1) ∧ u.cell? ⟨b2, o2 + q * 4, none⟩ = some (Value.int .i64 a.1) ∧ u.cell? ⟨b1, o1 + q * 4 + 1, none⟩ = some (Value.int .i64 a.2.1) ∧ u.cell? ⟨b2, o2 + q * 4 + 1, none⟩ = some (Value.int .i64 a.2.1) ∧ u.cell? ⟨b1, o1 + q * 4 + 2, none⟩ = some (vo1) ∧ u.cell? ⟨b2, o2 + q * 4 + 2, none⟩ = some (vo2) ∧ u.cell? ⟨b1, o1 + q * 4 + 3, none⟩ = some (vg1) ∧ u.cell? ⟨b2, o2 + q * 4 + 3, none⟩ = some (vg2)) from fun u hu => ⟨keep_cell hu e21, keep_cell hu f21, keep_cell hu p0, keep_cell hu q0, keep_cell hu p1, keep_cell hu q1, keep_cell hu p2, keep_cell hu q2, keep_cell hu p3, keep_cell hu q3⟩)
          have hdw : Below wr.heap.size wr wr.drew := ⟨rfl, rfl, rfl, Nat.le_refl _, fun _ _ => rfl⟩
          go_region_held3 (fun u => u.cell? ⟨N0, 21, none⟩ = some (.slice (some ⟨b1, o1, none⟩) m.picks.length cp) ∧ u.cell? ⟨N1, 21, none⟩ = some (.slice (some ⟨b2, o2, none⟩) m.picks.length dp) ∧ u.cell? ⟨b1, o1 + q * 4, none⟩ = some (Value.int .i64 a.1) ∧ u.cell? ⟨b2, o2 + q * 4, none⟩ = some (Value.int .i64 a.1) ∧ u.cell? ⟨b1, o1 + q * 4 + 1, none⟩ = some (Value.int .i64 a.2.1) ∧ u.cell? ⟨b2, o2 + q * 4 + 1, none⟩ = some (Value.int .i64 a.2.1) ∧ u.cell? ⟨b1, o1 + q * 4 + 2, none⟩ = some (vo1) ∧ u.cell? ⟨b2, o2 + q * 4 + 2, none⟩ = some (vo2) ∧ u.cell? ⟨b1, o1 + q * 4 + 3, none⟩ = some (vg1) ∧ u.cell? ⟨b2, o2 + q * 4 + 3, none⟩ = some (vg2))
            (first | exact SK.out _ (by assumption) | go_keep)
            (first | (go_at_call 28; refine (hK.out _ hdr).mono ?_; rintro e w8 ⟨rfl, hb8⟩; have hb8w : Below wr.heap.size wr w8 := hdw.trans hb8))
          go_wp2_with fail
          go_roundw
          case rel => exact ⟨q + 1, by omega, by go_num, below_and hdr (Nat.le_refl _) hb8⟩
          case measure => simp [intOf]; omega
        · have e22 := (hbr.cell (p := ⟨N0, 22, none⟩) h0w).trans a22
          go_wp2_with fail
          go_loopw [166] (fun i wr => ∃ q : Nat, q ≤ 0 ∧ i = .int .i64 q ∧ Below w7.heap.size w7 wr) (fun i _ => m.reps.length - (intOf i).toNat)
          case atStart => exact ⟨0, by omega, rfl, hbr⟩
          case round =>
            clear hbr hBr e22 hql hq
            obtain ⟨q, hq, rfl, hbr⟩ := hrel
            have hBr := below_and hB (Nat.le_refl _) hbr
            by_cases hql : q < m.reps.length
            · obtain ⟨a, rfl⟩ : ∃ a, a = r := ⟨_, rfl⟩
              have hq0 : q = 0 := by have := HL1.out; omega
              have ha : m.reps[q]? = some a := by rw [HRR.out, hq0]; rfl
              have ha2 : ([repSig a g] : List PRep)[q]? = some (repSig a g) := by rw [hq0]; rfl
              clear hq0
              obtain ⟨b1, o1, c1, hw1, _, _, _, hb1, hx1⟩ := hs.l.at (by omega)
              obtain ⟨b2, o2, c2, hw2, _, _, _, hb2, hx2⟩ := ht.l.at (by simp)
              rw [HVL.out] at hw1
              have hw2 : t.l = .slice (some ⟨b2, o2, none⟩) m.reps.length c2 := by rw [HL1.out]; exact hw2
              rw [HUL.out] at hw2
              injection hw1 with e1 e2 e3
              injection hw2 with f1 f2 f3
              subst e1 e3 f1 f3
              obtain ⟨r1, _, y1, hr1⟩ := hx1 q a ha
              obtain ⟨r2, _, y2, hr2⟩ := hx2 q _ ha2
              have hK := (show Hid (∀ u, Below w7.heap.size w7 u → Calls Tryz.prog 10 #[.agg r1.toArray, .agg r2.toArray] u fun e w' => e = .returned (.bool false) ∧ Below u.heap.size u w') from fun u hu => by
                have hbu := below_and hB (Nat.le_refl _) hu
                exact sameReport_ne u r1 r2 a g hne (mov_rep _ _ _ _ _ _ hr1 hbu.size (Mv.below hbu)) (mov_rep _ _ _ _ _ _ hr2 hbu.size (Mv.below hbu)))
              obtain ⟨vd1, vs1, vp1, vg1, rfl, _, _, _, _⟩ := hr1
              obtain ⟨vd2, vs2, vp2, vg2, er2', _, _, _, _⟩ := hr2
              have er2 : r2 = [.int .i64 a.1.1, .int .i64 a.1.2, .int .i64 a.2.1, .int .i64 a.2.2.1, vd2, vs2, vp2, vg2] := er2'
              clear er2'
              subst er2
              have y1 := rangeAt_block y1 (hBr.block b1 hb1)
              have y2 := rangeAt_block y2 (hBr.block b2 hb2)
              have e22 := (hbr.cell (p := ⟨N0, 22, none⟩) h0w).trans a22
              have f22 := (hbr.cell (p := ⟨N1, 22, none⟩) h1w).trans b22
              have p0 := y1 0 _ rfl; have q0 := y2 0 _ rfl
              have p1 := y1 1 _ rfl; have q1 := y2 1 _ rfl
              have p2 := y1 2 _ rfl; have q2 := y2 2 _ rfl
              have p3 := y1 3 _ rfl; have q3 := y2 3 _ rfl
              have p4 := y1 4 _ rfl; have q4 := y2 4 _ rfl
              have p5 := y1 5 _ rfl; have q5 := y2 5 _ rfl
              have p6 := y1 6 _ rfl; have q6 := y2 6 _ rfl
              have p7 := y1 7 _ rfl; have q7 := y2 7 _ rfl
              simp only [Nat.add_zero] at p0 q0
              have hdr : Below w7.heap.size w7 wr.drew := hbr.trans ⟨rfl, rfl, rfl, Nat.le_refl _, fun _ _ => rfl⟩
              clear hx1 hx2 y1 y2 ha ha2
              go_wp2_with fail
              have SK := (show Hid (∀ u, Below wr.heap.size wr u → u.cell? ⟨N0, 22, none⟩ = some (.slice (some ⟨b1, o1, none⟩) m.reps.length cl) ∧ u.cell? ⟨N1, 22, none⟩ = some (.slice (some ⟨b2, o2, none⟩) m.reps.length dl) ∧ u.cell? ⟨b1, o1 + q * 8, none⟩ = some (Value.int .i64 a.1.1) ∧ u.cell? ⟨b2, o2 + q * 8, none⟩ = some (Value.int .i64 a.1.1) ∧ u.cell? ⟨b1, o1 + q * 8 + 1, none⟩ = some (Value.int .i64 a.1.2) ∧ u.cell? ⟨b2, o2 + q * 8 + 1, none⟩ = some (Value.int .i64 a.1.2) ∧ u.cell? ⟨b1, o1 + q * 8 + 2, none⟩ = some (Value.int .i64 a.2.1) ∧ u.cell? ⟨b2, o2 + q * 8 + 2, none⟩ = some (Value.int .i64 a.2.1) ∧ u.cell? ⟨b1, o1 + q * 8 + 3, none⟩ = some (Value.int .i64 a.2.2.1) ∧ u.cell? ⟨b2, o2 + q * 8 + 3, none⟩ = some (Value.int .i64 a.2.2.1) ∧ u.cell? ⟨b1, o1 + q * 8 + 4, none⟩ = some (vd1) ∧ u.cell? ⟨b2, o2 + q * 8 + 4, none⟩ = some (vd2) ∧ u.cell? ⟨b1, o1 + q * 8 + 5, none⟩ = some (vs1) ∧ u.cell? ⟨b2, o2 + q * 8 + 5, none⟩ = some (vs2) ∧ u.cell? ⟨b1, o1 + q * 8 + 6, none⟩ = some (vp1) ∧ u.cell? ⟨b2, o2 + q * 8 + 6, none⟩ = some (vp2) ∧ u.cell? ⟨b1, o1 + q * 8 + 7, none⟩ = some (vg1) ∧ u.cell? ⟨b2, o2 + q * 8 + 7, none⟩ = some (vg2)) from fun u hu => ⟨keep_cell hu e22, keep_cell hu f22, keep_cell hu p0, keep_cell hu q0, keep_cell hu p1, keep_cell hu q1, keep_cell hu p2, keep_cell hu q2, keep_cell hu p3, keep_cell hu q3, keep_cell hu p4, keep_cell hu q4, keep_cell hu p5, keep_cell hu q5, keep_cell hu p6, keep_cell hu q6, keep_cell hu p7, keep_cell hu q7⟩)
              have hdw : Below wr.heap.size wr wr.drew := ⟨rfl, rfl, rfl, Nat.le_refl _, fun _ _ => rfl⟩
              go_region_held3 (fun u => u.cell? ⟨N0, 22, none⟩ = some (.slice (some ⟨b1, o1, none⟩) m.reps.length cl) ∧ u.cell? ⟨N1, 22, none⟩ = some (.slice (some ⟨b2, o2, none⟩) m.reps.length dl) ∧ u.cell? ⟨b1, o1 + q * 8, none⟩ = some (Value.int .i64 a.1.1) ∧ u.cell? ⟨b2, o2 + q * 8, none⟩ = some (Value.int .i64 a.1.1) ∧ u.cell? ⟨b1, o1 + q * 8 + 1, none⟩ = some (Value.int .i64 a.1.2) ∧ u.cell? ⟨b2, o2 + q * 8 + 1, none⟩ = some (Value.int .i64 a.1.2) ∧ u.cell? ⟨b1, o1 + q * 8 + 2, none⟩ = some (Value.int .i64 a.2.1) ∧ u.cell? ⟨b2, o2 + q * 8 + 2, none⟩ = some (Value.int .i64 a.2.1) ∧ u.cell? ⟨b1, o1 + q * 8 + 3, none⟩ = some (Value.int .i64 a.2.2.1) ∧ u.cell? ⟨b2, o2 + q * 8 + 3, none⟩ = some (Value.int .i64 a.2.2.1) ∧ u.cell? ⟨b1, o1 + q * 8 + 4, none⟩ = some (vd1) ∧ u.cell? ⟨b2, o2 + q * 8 + 4, none⟩ = some (vd2) ∧ u.cell? ⟨b1, o1 + q * 8 + 5, none⟩ = some (vs1) ∧ u.cell? ⟨b2, o2 + q * 8 + 5, none⟩ = some (vs2) ∧ u.cell? ⟨b1, o1 + q * 8 + 6, none⟩ = some (vp1) ∧ u.cell? ⟨b2, o2 + q * 8 + 6, none⟩ = some (vp2) ∧ u.cell? ⟨b1, o1 + q * 8 + 7, none⟩ = some (vg1) ∧ u.cell? ⟨b2, o2 + q * 8 + 7, none⟩ = some (vg2))
                (first | exact SK.out _ (by assumption) | go_keep)
                (first | (go_at_call 10; refine (hK.out _ hdr).mono ?_; rintro e w8 ⟨rfl, hb8⟩; have hb8w : Below wr.heap.size wr w8 := hdw.trans hb8))
              go_wp2_with fail
              go_ret
              exact ⟨rfl, below_and hB (Nat.le_refl _) (below_and hdr (Nat.le_refl _) hb8)⟩
            · exfalso
              have := HL1.out
              omega
end
end Go.Proofs.YtgbfmccecnfooaaGreatDoor
