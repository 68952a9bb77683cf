/- vote.Cert. -/
import Derived.Test.YtgpkngiakhdmhaaDoorSBBP
import Derived.Test.YtgpkngiakhdmhaaDoorSBAN
import Derived.Test.YtgpkngiakhdmhaaDoorSBBC
set_option linter.unusedVariables false
namespace Go.Proofs.YtgpkngiakhdmhaaDoor
open Go.RowKit Oct Sha Bal
/-- Votes whose signers rise, each below n and right. -/
def certW (R : PVote → Bool) (n : Int) : Int → List PVote → Bool
  | _, [] => true
  | p, v :: vs => decide (p < v.1) && decide (v.1 < n) && R v && certW R n v.1 vs
def rightV (k x y s : Int) (l : List Int) (v : PVote) : Bool := verL (repL v.1) v.2 (sL ⟨#[118, 111, 116, 101]⟩) [numsL [k, x, y, s], l]
def certL (R : PVote → Bool) (n : Int) (ys : List PVote) : Bool := rgt n && decide ((ys.length : Int) = quo n) && certW R n (-1) ys
set_option maxRecDepth 10000 in
set_option maxHeartbeats 4000000 in
theorem vCert_some (w : World) (k x y s : Int) (v : Value) (l : List Int) (n : Int) (bb off cap : Nat) (ys : List PVote) (hv : Rd w v l) (hl : l.length ≤ 3000000) (hyl : 0 < ys.length) (hc : ys.length ≤ cap) (hm : cap ≤ maxLen) (hbb : bb < w.heap.size)
    (hx : ∀ (i : Nat) (a : PVote), ys[i]? = some a → ∃ r, r.length = 2 ∧ w.rangeAt bb (off + i * 2) r ∧ RVote Any w r a) (hT : Tab w) (hr : rgt n = true) (hq : (ys.length : Int) = quo n) :
    Calls Tryd.prog 13 #[.int .i64 k, .agg #[.int .i64 x, .int .i64 y], .int .i64 s, v, .slice (some ⟨bb, off, none⟩) ys.length cap, .int .i64 n] w fun e w' => e = .returned (.bool (certW (rightV k x y s l) n (-1) ys)) ∧ Below w.heap.size w w' := by
  have le := Nat.le_refl w.heap.size
  obtain ⟨ao, ac, rfl, hac⟩ := hv.form
  have HX := (show Hid (∀ (i : Nat) (a : PVote), ys[i]? = some a → ∃ r, r.length = 2 ∧ w.rangeAt bb (off + i * 2) r ∧ RVote Any w r a) from hx)
  have hlm : (ys.length : Int) ≤ 9223372036854775807 := by unfold maxLen at hm; omega
  have HR := (show Hid (∀ u : World, Calls Tryd.prog 15 #[.int .i64 n] u fun e w' => e = .returned (.bool true) ∧ w' = u) from fun u => Bb.right_yes u n hr)
  have HQ := (show Hid (∀ u : World, Calls Tryd.prog 25 #[.int .i64 n] u fun e w' => e = .returned (.int .i64 (ys.length : Int)) ∧ w' = u) from fun u => hq ▸ Bb.quorum_any u n)
  clear hx hr hq
  obtain ⟨w0, hw0⟩ : ∃ w0, w0 = w.alloc (.cells #[.int .i64 x, .int .i64 y] 39) := ⟨_, rfl⟩
  have ra : Row w0 w.heap.size 39 [.int .i64 x, .int .i64 y] := by rw [hw0]; exact Row.new w 39 _
  have B0 : Below w.heap.size w w0 := by rw [hw0]; exact below_alloc _ _
  have hll : ((ys.length : Int) == (ys.length : Int)) = true := by simp
  go_enter Tryd.func13, Tryd.ntmps13
  go_wp2_with fail
  rw [← hw0]
  clear hw0
  refine (HR.out _).mono ?_
  rintro e w0 ⟨rfl, rfl⟩
  go_wp2_with fail
  refine (HQ.out _).mono ?_
  rintro e w0 ⟨rfl, rfl⟩
  go_wp2_with fail
  go_loopw [13, 28] (fun o i wr => ∃ (q : Nat) (p : Int), q ≤ ys.length ∧ o = .int .i64 p ∧ i = .int .i64 q ∧ Hid (certW (rightV k x y s l) n (-1) ys = certW (rightV k x y s l) n p (ys.drop q)) ∧ Below w0.heap.size w0 wr) (fun _ i _ => ys.length - (intOf i).toNat)
  case atStart => exact ⟨0, -1, by omega, rfl, rfl, by show _ = _; rw [List.drop_zero], Below.refl _ _⟩
  case round =>
    clear HR HQ hll
    obtain ⟨q, p, hq, rfl, rfl, HC, hbw⟩ := hrel
    have hB := below_and B0 le hbw
    by_cases hql : q < ys.length
    · obtain ⟨a, ha⟩ : ∃ a, ys[q]? = some a := ⟨_, List.getElem?_eq_getElem hql⟩
      obtain ⟨r, _, hrng, g, rfl, hg⟩ := HX.out q a ha
      have hrng := rangeAt_block hrng (hB.block bb hbb)
      have HD := (show Hid (certW (rightV k x y s l) n (-1) ys = (decide (p < a.1) && decide (a.1 < n) && rightV k x y s l a && certW (rightV k x y s l) n a.1 (ys.drop (q + 1)))) by
        show _ = _
        rw [HC.out, List.drop_eq_getElem_cons hql]
        obtain ⟨_, e⟩ := List.getElem?_eq_some_iff.1 ha
        rw [e]
        rfl)
      have hso := hg.one
      have hrow0 := Row.new wr 28 [.int .i64 0, .slice none 0 0]
      have hgw := (hg.mv (Mv.below hB)).1
      have hvw := hv.below hB
      have hTw := hT.below hB
      have rb := ra.below hbw
      clear ha HC hg
      obtain ⟨ag, gap, rfl, hgap⟩ := hgw.form
      have hle : (a.1 ≤ p) ∨ (p < a.1) := by omega
      have hge : (n ≤ a.1) ∨ (a.1 < n) := by omega
      rcases hle with h1 | h1
      · have HF := (show Hid (certW (rightV k x y s l) n (-1) ys = false) by show _ = _; rw [HD.out, decide_eq_false (by omega)]; rfl)
        go_wp2_with (first
          | (refine wpList_load_mid rfl _ _ rfl bb (off + q * 2) rfl [.int .i64 a.1, .slice ag a.2.length gap] _ hrng Tryd.underlying28 rfl (by kernel_rfl) ?_)
          | (refine wl_store rfl _ _ _ rfl wr.heap.size [.int .i64 a.1, .slice ag a.2.length gap] rfl rfl _ _ hrow0 rfl (by kernel_rfl) (one2 hso) ?_; intro w5 hr5 hg5; have c0 := hr5.out.cell (j := 0) rfl; have c1 := hr5.out.cell (j := 1) rfl; have hb5 : Below wr.heap.size wr w5 := (below_alloc wr (.cells ([.int .i64 0, .slice none 0 0] : List Value).toArray 28)).trans (grown_below hg5 (by simp) (fun k hk => by cases hk; exact Nat.le_refl _)); have d0 := (rb.below hb5).cell (j := 0) rfl; have d1 := (rb.below hb5).cell (j := 1) rfl))
        go_ret
        exact ⟨by rw [HF.out]; rfl, below_and hB le hb5⟩
      rcases hge with h2 | h2
      · have HF := (show Hid (certW (rightV k x y s l) n (-1) ys = false) by show _ = _; rw [HD.out, decide_eq_false (show ¬ a.1 < n by omega), Bool.and_false]; rfl)
        go_wp2_with (first
          | (refine wpList_load_mid rfl _ _ rfl bb (off + q * 2) rfl [.int .i64 a.1, .slice ag a.2.length gap] _ hrng Tryd.underlying28 rfl (by kernel_rfl) ?_)
          | (refine wl_store rfl _ _ _ rfl wr.heap.size [.int .i64 a.1, .slice ag a.2.length gap] rfl rfl _ _ hrow0 rfl (by kernel_rfl) (one2 hso) ?_; intro w5 hr5 hg5; have c0 := hr5.out.cell (j := 0) rfl; have c1 := hr5.out.cell (j := 1) rfl; have hb5 : Below wr.heap.size wr w5 := (below_alloc wr (.cells ([.int .i64 0, .slice none 0 0] : List Value).toArray 28)).trans (grown_below hg5 (by simp) (fun k hk => by cases hk; exact Nat.le_refl _)); have d0 := (rb.below hb5).cell (j := 0) rfl; have d1 := (rb.below hb5).cell (j := 1) rfl))
        go_ret
        exact ⟨by rw [HF.out]; rfl, below_and hB le hb5⟩
      have hV := fun u hu => vRight_any u k x y s a.1 _ l (hvw.below hu) hl _ a.2 (hgw.below hu) (hTw.below hu)
      have hD := HD.out
      rw [decide_eq_true h1, decide_eq_true h2, Bool.true_and, Bool.true_and] at hD
      cases hR : rightV k x y s l a
      · rw [hR, Bool.false_and] at hD
        have HF := (show Hid (certW (rightV k x y s l) n (-1) ys = false) from hD)
        have HV := (show Hid (∀ u, Below wr.heap.size wr u → Calls Tryd.prog 27 #[.int .i64 k, .agg #[.int .i64 x, .int .i64 y], .int .i64 s, .slice ao l.length ac, .agg #[.int .i64 a.1, .slice ag a.2.length gap]] u fun e w' => e = .returned (.bool false) ∧ Below u.heap.size u w') from fun u hu => by
          have := hV u hu
          rwa [show verL (repL a.1) a.2 (sL ⟨#[118, 111, 116, 101]⟩) [numsL [k, x, y, s], l] = false from hR] at this)
        clear hV hD hR HD
        go_wp2_with (first
          | (refine wpList_load_mid rfl _ _ rfl bb (off + q * 2) rfl [.int .i64 a.1, .slice ag a.2.length gap] _ hrng Tryd.underlying28 rfl (by kernel_rfl) ?_)
          | (refine wl_store rfl _ _ _ rfl wr.heap.size [.int .i64 a.1, .slice ag a.2.length gap] rfl rfl _ _ hrow0 rfl (by kernel_rfl) (one2 hso) ?_; intro w5 hr5 hg5; have c0 := hr5.out.cell (j := 0) rfl; have c1 := hr5.out.cell (j := 1) rfl; have hb5 : Below wr.heap.size wr w5 := (below_alloc wr (.cells ([.int .i64 0, .slice none 0 0] : List Value).toArray 28)).trans (grown_below hg5 (by simp) (fun k hk => by cases hk; exact Nat.le_refl _)); have d0 := (rb.below hb5).cell (j := 0) rfl; have d1 := (rb.below hb5).cell (j := 1) rfl))
        refine (HV.out _ hb5).mono ?_
        rintro e w6 ⟨rfl, hb6⟩
        go_wp2_with fail
        go_ret
        exact ⟨by rw [HF.out]; rfl, below_and (below_and hB le hb5) le hb6⟩
      · rw [hR, Bool.true_and] at hD
        have HF := (show Hid (certW (rightV k x y s l) n (-1) ys = certW (rightV k x y s l) n a.1 (ys.drop (q + 1))) from hD)
        have HV := (show Hid (∀ u, Below wr.heap.size wr u → Calls Tryd.prog 27 #[.int .i64 k, .agg #[.int .i64 x, .int .i64 y], .int .i64 s, .slice ao l.length ac, .agg #[.int .i64 a.1, .slice ag a.2.length gap]] u fun e w' => e = .returned (.bool true) ∧ Below u.heap.size u w') from fun u hu => by
          have := hV u hu
          rwa [show verL (repL a.1) a.2 (sL ⟨#[118, 111, 116, 101]⟩) [numsL [k, x, y, s], l] = true from hR] at this)
        clear hV hD hR HD
        go_wp2_with (first
          | (refine wpList_load_mid rfl _ _ rfl bb (off + q * 2) rfl [.int .i64 a.1, .slice ag a.2.length gap] _ hrng Tryd.underlying28 rfl (by kernel_rfl) ?_)
          | (refine wl_store rfl _ _ _ rfl wr.heap.size [.int .i64 a.1, .slice ag a.2.length gap] rfl rfl _ _ hrow0 rfl (by kernel_rfl) (one2 hso) ?_; intro w5 hr5 hg5; have c0 := hr5.out.cell (j := 0) rfl; have c1 := hr5.out.cell (j := 1) rfl; have hb5 : Below wr.heap.size wr w5 := (below_alloc wr (.cells ([.int .i64 0, .slice none 0 0] : List Value).toArray 28)).trans (grown_below hg5 (by simp) (fun k hk => by cases hk; exact Nat.le_refl _)); have d0 := (rb.below hb5).cell (j := 0) rfl; have d1 := (rb.below hb5).cell (j := 1) rfl))
        refine (HV.out _ hb5).mono ?_
        rintro e w6 ⟨rfl, hb6⟩
        have c6 := (hr5.out.below hb6).cell (j := 0) rfl
        have hb7 := below_and hbw (Nat.le_refl _) (below_and hb5 (Nat.le_refl _) hb6)
        clear c0 c1 d0 d1 hr5 hg5
        go_wp2_with fail
        go_roundw
        case rel => exact ⟨q + 1, a.1, by omega, rfl, by go_num, HF, hb7⟩
        case measure => simp [intOf]; omega
    · rw [List.drop_eq_nil_of_le (by omega)] at HC
      have HF := (show Hid (certW (rightV k x y s l) n (-1) ys = true) from HC.out)
      clear HC
      go_wp2_with fail
      go_ret
      exact ⟨by rw [HF.out]; rfl, hB⟩
/-- vote.Cert. -/
theorem vCert_any (w : World) (k x y s : Int) (v : Value) (l : List Int) (n : Int) (vv : Value) (ys : List PVote) (hv : Rd w v l) (hl : l.length ≤ 3000000) (hy : RL RVote 2 Any w vv ys) (hT : Tab w) :
    Calls Tryd.prog 13 #[.int .i64 k, .agg #[.int .i64 x, .int .i64 y], .int .i64 s, v, vv, .int .i64 n] w fun e w' => e = .returned (.bool (certL (rightV k x y s l) n ys)) ∧ Below w.heap.size w w' := by
  by_cases hr : rgt n = true
  · by_cases hq : (ys.length : Int) = quo n
    · rw [certL, hr, decide_eq_true hq, Bool.true_and, Bool.true_and]
      have h5 := fau_ge hr
      have h6 := quo_yes hr
      have hyl : 0 < ys.length := by omega
      obtain ⟨b1, o1, c1, rfl, hc1, hm1, _, hb1, hx1⟩ := hy.at hyl
      exact vCert_some w k x y s v l n b1 o1 c1 ys hv hl hyl hc1 hm1 hb1 hx1 hT hr hq
    · rw [certL, hr, decide_eq_false hq, Bool.true_and, Bool.false_and]
      have HR := (show Hid (∀ u : World, Calls Tryd.prog 15 #[.int .i64 n] u fun e w' => e = .returned (.bool true) ∧ w' = u) from fun u => Bb.right_yes u n hr)
      have HQ := (show Hid (∀ u : World, Calls Tryd.prog 25 #[.int .i64 n] u fun e w' => e = .returned (.int .i64 (quo n)) ∧ w' = u) from fun u => Bb.quorum_any u n)
      have hne : ((ys.length : Int) == quo n) = false := by rw [beq_eq_false_iff_ne]; exact hq
      obtain ⟨va, vc, rfl, hvc⟩ := hy.form
      obtain ⟨ao, ac, rfl, hac⟩ := hv.form
      have b0 := below_alloc w (.cells #[.int .i64 x, .int .i64 y] 39)
      clear hr hq
      generalize quo n = Q at *
      go_enter Tryd.func13, Tryd.ntmps13
      go_wp2_with fail
      refine (HR.out _).mono ?_
      rintro e w0 ⟨rfl, rfl⟩
      go_wp2_with fail
      refine (HQ.out _).mono ?_
      rintro e w0 ⟨rfl, rfl⟩
      go_wp2_with fail
      go_ret
      exact ⟨rfl, b0⟩
  · rw [certL, rgt_no hr, Bool.false_and, Bool.false_and]
    have HR := (show Hid (∀ u : World, Calls Tryd.prog 15 #[.int .i64 n] u fun e w' => e = .returned (.bool false) ∧ w' = u) from fun u => Bb.right_not u n hr)
    obtain ⟨va, vc, rfl, hvc⟩ := hy.form
    obtain ⟨ao, ac, rfl, hac⟩ := hv.form
    have b0 := below_alloc w (.cells #[.int .i64 x, .int .i64 y] 39)
    clear hr
    go_enter Tryd.func13, Tryd.ntmps13
    go_wp2_with fail
    refine (HR.out _).mono ?_
    rintro e w0 ⟨rfl, rfl⟩
    go_wp2_with fail
    go_ret
    exact ⟨rfl, b0⟩
end Go.Proofs.YtgpkngiakhdmhaaDoor
