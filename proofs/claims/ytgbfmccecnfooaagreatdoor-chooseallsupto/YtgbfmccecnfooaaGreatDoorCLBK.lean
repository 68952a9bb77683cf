/- The document's Body. -/
import Derived.Test.YtgbfmccecnfooaaGreatDoorCLBD
import Derived.Test.YtgbfmccecnfooaaGreatDoorCLAW
import Derived.Test.YtgbfmccecnfooaaGreatDoorCLAO
import Derived.Test.YtgbfmccecnfooaaGreatDoorCLBI
set_option linter.unusedVariables false
namespace Go.Proofs.YtgbfmccecnfooaaGreatDoor
section
open Go.RowKit Oct Sha Bal
/-- Votes whose signers rise, each below n and right. -/
def certW (R : PVote → Bool) (n : Int) : Int → List PVote → Bool
  | _, [] => true
  | p, v :: vs => decide (p < v.1) && decide (v.1 < n) && R v && certW R n v.1 vs
def rightV (k x y s : Int) (l : List Int) (v : PVote) : Bool := verL (repL v.1) v.2 (sL ⟨#[118, 111, 116, 101]⟩) [numsL [k, x, y, s], l]
def certL (R : PVote → Bool) (n : Int) (ys : List PVote) : Bool := rgt n && decide ((ys.length : Int) = quo n) && certW R n (-1) ys
set_option maxRecDepth 10000 in
set_option maxHeartbeats 4000000 in
theorem vCert_some (w : World) (k x y s : Int) (v : Value) (l : List Int) (n : Int) (bb off cap : Nat) (ys : List PVote) (hv : Rd w v l) (hl : l.length ≤ 3000000) (hyl : 0 < ys.length) (hc : ys.length ≤ cap) (hm : cap ≤ maxLen) (hbb : bb < w.heap.size)
    (hx : ∀ (i : Nat) (a : PVote), ys[i]? = some a → ∃ r, r.length = 2 ∧ w.rangeAt bb (off + i * 2) r ∧ RVote Any w r a) (hT : Tab w) (hr : rgt n = true) (hq : (ys.length : Int) = quo n) :
    Calls Tryz.prog 60 #[.int .i64 k, .agg #[.int .i64 x, .int .i64 y], .int .i64 s, v, .slice (some ⟨bb, off, none⟩) ys.length cap, .int .i64 n] w fun e w' => e = .returned (.bool (certW (rightV k x y s l) n (-1) ys)) ∧ Below w.heap.size w w' := by
  have le := Nat.le_refl w.heap.size
  obtain ⟨ao, ac, rfl, hac⟩ := hv.form
  have HX := (show Hid (∀ (i : Nat) (a : PVote), ys[i]? = some a → ∃ r, r.length = 2 ∧ w.rangeAt bb (off + i * 2) r ∧ RVote Any w r a) from hx)
  have hlm : (ys.length : Int) ≤ 9223372036854775807 := by unfold maxLen at hm; omega
  have HR := (show Hid (∀ u : World, Calls Tryz.prog 30 #[.int .i64 n] u fun e w' => e = .returned (.bool true) ∧ w' = u) from fun u => Bb.right_yes u n hr)
  have HQ := (show Hid (∀ u : World, Calls Tryz.prog 40 #[.int .i64 n] u fun e w' => e = .returned (.int .i64 (ys.length : Int)) ∧ w' = u) from fun u => hq ▸ Bb.quorum_any u n)
  clear hx hr hq
  obtain ⟨w0, hw0⟩ : ∃ w0, w0 = w.alloc (.cells #[.int .i64 x, .int .i64 y] 23) := ⟨_, rfl⟩
  have ra : Row w0 w.heap.size 23 [.int .i64 x, .int .i64 y] := by rw [hw0]; exact Row.new w 23 _
  have B0 : Below w.heap.size w w0 := by rw [hw0]; exact below_alloc _ _
  have hll : ((ys.length : Int) == (ys.length : Int)) = true := by simp
  go_enter Tryz.func60, Tryz.ntmps60
  go_wp2_with fail
  rw [← hw0]
  clear hw0
  refine (HR.out _).mono ?_
  rintro e w0 ⟨rfl, rfl⟩
  go_wp2_with fail
  refine (HQ.out _).mono ?_
  rintro e w0 ⟨rfl, rfl⟩
  go_wp2_with fail
  go_loopw [13, 28] (fun o i wr => ∃ (q : Nat) (p : Int), q ≤ ys.length ∧ o = .int .i64 p ∧ i = .int .i64 q ∧ Hid (certW (rightV k x y s l) n (-1) ys = certW (rightV k x y s l) n p (ys.drop q)) ∧ Below w0.heap.size w0 wr) (fun _ i _ => ys.length - (intOf i).toNat)
  case atStart => exact ⟨0, -1, by omega, rfl, rfl, by show _ = _; rw [List.drop_zero], Below.refl _ _⟩
  case round =>
    clear HR HQ hll
    obtain ⟨q, p, hq, rfl, rfl, HC, hbw⟩ := hrel
    have hB := below_and B0 le hbw
    by_cases hql : q < ys.length
    · obtain ⟨a, ha⟩ : ∃ a, ys[q]? = some a := ⟨_, List.getElem?_eq_getElem hql⟩
      obtain ⟨r, _, hrng, g, rfl, hg⟩ := HX.out q a ha
      have hrng := rangeAt_block hrng (hB.block bb hbb)
      have HD := (show Hid (certW (rightV k x y s l) n (-1) ys = (decide (p < a.1) && decide (a.1 < n) && rightV k x y s l a && certW (rightV k x y s l) n a.1 (ys.drop (q + 1)))) by
        show _ = _
        rw [HC.out, List.drop_eq_getElem_cons hql]
        obtain ⟨_, e⟩ := List.getElem?_eq_some_iff.1 ha
        rw [e]
        rfl)
      have hso := hg.one
      have hrow0 := Row.new wr 42 [.int .i64 0, .slice none 0 0]
      have hgw := (hg.mv (Mv.below hB)).1
      have hvw := hv.below hB
      have hTw := hT.below hB
      have rb := ra.below hbw
      clear ha HC hg
      obtain ⟨ag, gap, rfl, hgap⟩ := hgw.form
      have hle : (a.1 ≤ p) ∨ (p < a.1) := by omega
      have hge : (n ≤ a.1) ∨ (a.1 < n) := by omega
      rcases hle with h1 | h1
      · have HF := (show Hid (certW (rightV k x y s l) n (-1) ys = false) by show _ = _; rw [HD.out, decide_eq_false (by omega)]; rfl)
        go_wp2_with (first
          | (refine wpList_load_mid rfl _ _ rfl bb (off + q * 2) rfl [.int .i64 a.1, .slice ag a.2.length gap] _ hrng Tryz.underlying42 rfl (by kernel_rfl) ?_)
          | (refine wl_store rfl _ _ _ rfl wr.heap.size [.int .i64 a.1, .slice ag a.2.length gap] rfl rfl _ _ hrow0 rfl (by kernel_rfl) (one2 hso) ?_; intro w5 hr5 hg5; have c0 := hr5.out.cell (j := 0) rfl; have c1 := hr5.out.cell (j := 1) rfl; have hb5 : Below wr.heap.size wr w5 := (below_alloc wr (.cells ([.int .i64 0, .slice none 0 0] : List Value).toArray 42)).trans (grown_below hg5 (by simp) (fun k hk => by cases hk; exact Nat.le_refl _)); have d0 := (rb.below hb5).cell (j := 0) rfl; have d1 := (rb.below hb5).cell (j := 1) rfl))
        go_ret
        exact ⟨by rw [HF.out]; rfl, below_and hB le hb5⟩
      rcases hge with h2 | h2
      · have HF := (show Hid (certW (rightV k x y s l) n (-1) ys = false) by show _ = _; rw [HD.out, decide_eq_false (show ¬ a.1 < n by omega), Bool.and_false]; rfl)
        go_wp2_with (first
          | (refine wpList_load_mid rfl _ _ rfl bb (off + q * 2) rfl [.int .i64 a.1, .slice ag a.2.length gap] _ hrng Tryz.underlying42 rfl (by kernel_rfl) ?_)
          | (refine wl_store rfl _ _ _ rfl wr.heap.size [.int .i64 a.1, .slice ag a.2.length gap] rfl rfl _ _ hrow0 rfl (by kernel_rfl) (one2 hso) ?_; intro w5 hr5 hg5; have c0 := hr5.out.cell (j := 0) rfl; have c1 := hr5.out.cell (j := 1) rfl; have hb5 : Below wr.heap.size wr w5 := (below_alloc wr (.cells ([.int .i64 0, .slice none 0 0] : List Value).toArray 42)).trans (grown_below hg5 (by simp) (fun k hk => by cases hk; exact Nat.le_refl _)); have d0 := (rb.below hb5).cell (j := 0) rfl; have d1 := (rb.below hb5).cell (j := 1) rfl))
        go_ret
        exact ⟨by rw [HF.out]; rfl, below_and hB le hb5⟩
      have hV := fun u hu => vRight_any u k x y s a.1 _ l (hvw.below hu) hl _ a.2 (hgw.below hu) (hTw.below hu)
      have hD := HD.out
      rw [decide_eq_true h1, decide_eq_true h2, Bool.true_and, Bool.true_and] at hD
      cases hR : rightV k x y s l a
      · rw [hR, Bool.false_and] at hD
        have HF := (show Hid (certW (rightV k x y s l) n (-1) ys = false) from hD)
        have HV := (show Hid (∀ u, Below wr.heap.size wr u → Calls Tryz.prog 70 #[.int .i64 k, .agg #[.int .i64 x, .int .i64 y], .int .i64 s, .slice ao l.length ac, .agg #[.int .i64 a.1, .slice ag a.2.length gap]] u fun e w' => e = .returned (.bool false) ∧ Below u.heap.size u w') from fun u hu => by
          have := hV u hu
          rwa [show verL (repL a.1) a.2 (sL ⟨#[118, 111, 116, 101]⟩) [numsL [k, x, y, s], l] = false from hR] at this)
        clear hV hD hR HD
        go_wp2_with (first
          | (refine wpList_load_mid rfl _ _ rfl bb (off + q * 2) rfl [.int .i64 a.1, .slice ag a.2.length gap] _ hrng Tryz.underlying42 rfl (by kernel_rfl) ?_)
          | (refine wl_store rfl _ _ _ rfl wr.heap.size [.int .i64 a.1, .slice ag a.2.length gap] rfl rfl _ _ hrow0 rfl (by kernel_rfl) (one2 hso) ?_; intro w5 hr5 hg5; have c0 := hr5.out.cell (j := 0) rfl; have c1 := hr5.out.cell (j := 1) rfl; have hb5 : Below wr.heap.size wr w5 := (below_alloc wr (.cells ([.int .i64 0, .slice none 0 0] : List Value).toArray 42)).trans (grown_below hg5 (by simp) (fun k hk => by cases hk; exact Nat.le_refl _)); have d0 := (rb.below hb5).cell (j := 0) rfl; have d1 := (rb.below hb5).cell (j := 1) rfl))
        refine (HV.out _ hb5).mono ?_
        rintro e w6 ⟨rfl, hb6⟩
        go_wp2_with fail
        go_ret
        exact ⟨by rw [HF.out]; rfl, below_and (below_and hB le hb5) le hb6⟩
      · rw [hR, Bool.true_and] at hD
        have HF := (show Hid (certW (rightV k x y s l) n (-1) ys = certW (rightV k x y s l) n a.1 (ys.drop (q + 1))) from hD)
        have HV := (show Hid (∀ u, Below wr.heap.size wr u → Calls Tryz.prog 70 #[.int .i64 k, .agg #[.int .i64 x, .int .i64 y], .int .i64 s, .slice ao l.length ac, .agg #[.int .i64 a.1, .slice ag a.2.length gap]] u fun e w' => e = .returned (.bool true) ∧ Below u.heap.size u w') from fun u hu => by
          have := hV u hu
          rwa [show verL (repL a.1) a.2 (sL ⟨#[118, 111, 116, 101]⟩) [numsL [k, x, y, s], l] = true from hR] at this)
        clear hV hD hR HD
        go_wp2_with (first
          | (refine wpList_load_mid rfl _ _ rfl bb (off + q * 2) rfl [.int .i64 a.1, .slice ag a.2.length gap] _ hrng Tryz.underlying42 rfl (by kernel_rfl) ?_)
          | (refine wl_store rfl _ _ _ rfl wr.heap.size [.int .i64 a.1, .slice ag a.2.length gap] rfl rfl _ _ hrow0 rfl (by kernel_rfl) (one2 hso) ?_; intro w5 hr5 hg5; have c0 := hr5.out.cell (j := 0) rfl; have c1 := hr5.out.cell (j := 1) rfl; have hb5 : Below wr.heap.size wr w5 := (below_alloc wr (.cells ([.int .i64 0, .slice none 0 0] : List Value).toArray 42)).trans (grown_below hg5 (by simp) (fun k hk => by cases hk; exact Nat.le_refl _)); have d0 := (rb.below hb5).cell (j := 0) rfl; have d1 := (rb.below hb5).cell (j := 1) rfl))
        refine (HV.out _ hb5).mono ?_
        rintro e w6 ⟨rfl, hb6⟩
        have c6 := (hr5.out.below hb6).cell (j := 0) rfl
        have hb7 := below_and hbw (Nat.le_refl _) (below_and hb5 (Nat.le_refl _) hb6)
        clear c0 c1 d0 d1 hr5 hg5
        go_wp2_with fail
        go_roundw
        case rel => exact ⟨q + 1, a.1, by omega, rfl, by go_num, HF, hb7⟩
        case measure => simp [intOf]; omega
    · rw [List.drop_eq_nil_of_le (by omega)] at HC
      have HF := (show Hid (certW (rightV k x y s l) n (-1) ys = true) from HC.out)
      clear HC
      go_wp2_with fail
      go_ret
      exact ⟨by rw [HF.out]; rfl, hB⟩
/-- vote.Cert. -/
theorem vCert_any (w : World) (k x y s : Int) (v : Value) (l : List Int) (n : Int) (vv : Value) (ys : List PVote) (hv : Rd w v l) (hl : l.length ≤ 3000000) (hy : RL RVote 2 Any w vv ys) (hT : Tab w) :
    Calls Tryz.prog 60 #[.int .i64 k, .agg #[.int .i64 x, .int .i64 y], .int .i64 s, v, vv, .int .i64 n] w fun e w' => e = .returned (.bool (certL (rightV k x y s l) n ys)) ∧ Below w.heap.size w w' := by
  by_cases hr : rgt n = true
  · by_cases hq : (ys.length : Int) = quo n
    · rw [certL, hr, decide_eq_true hq, Bool.true_and, Bool.true_and]
      have h5 := fau_ge hr
      have h6 := quo_yes hr
      have hyl : 0 < ys.length := by omega
      obtain ⟨b1, o1, c1, rfl, hc1, hm1, _, hb1, hx1⟩ := hy.at hyl
      exact vCert_some w k x y s v l n b1 o1 c1 ys hv hl hyl hc1 hm1 hb1 hx1 hT hr hq
    · rw [certL, hr, decide_eq_false hq, Bool.true_and, Bool.false_and]
      have HR := (show Hid (∀ u : World, Calls Tryz.prog 30 #[.int .i64 n] u fun e w' => e = .returned (.bool true) ∧ w' = u) from fun u => Bb.right_yes u n hr)
      have HQ := (show Hid (∀ u : World, Calls Tryz.prog 40 #[.int .i64 n] u fun e w' => e = .returned (.int .i64 (quo n)) ∧ w' = u) from fun u => Bb.quorum_any u n)
      have hne : ((ys.length : Int) == quo n) = false := by rw [beq_eq_false_iff_ne]; exact hq
      obtain ⟨va, vc, rfl, hvc⟩ := hy.form
      obtain ⟨ao, ac, rfl, hac⟩ := hv.form
      have b0 := below_alloc w (.cells #[.int .i64 x, .int .i64 y] 23)
      clear hr hq
      generalize quo n = Q at *
      go_enter Tryz.func60, Tryz.ntmps60
      go_wp2_with fail
      refine (HR.out _).mono ?_
      rintro e w0 ⟨rfl, rfl⟩
      go_wp2_with fail
      refine (HQ.out _).mono ?_
      rintro e w0 ⟨rfl, rfl⟩
      go_wp2_with fail
      go_ret
      exact ⟨rfl, b0⟩
  · rw [certL, rgt_no hr, Bool.false_and, Bool.false_and]
    have HR := (show Hid (∀ u : World, Calls Tryz.prog 30 #[.int .i64 n] u fun e w' => e = .returned (.bool false) ∧ w' = u) from fun u => Bb.right_not u n hr)
    obtain ⟨va, vc, rfl, hvc⟩ := hy.form
    obtain ⟨ao, ac, rfl, hac⟩ := hv.form
    have b0 := below_alloc w (.cells #[.int .i64 x, .int .i64 y] 23)
    clear hr
    go_enter Tryz.func60, Tryz.ntmps60
    go_wp2_with fail
    refine (HR.out _).mono ?_
    rintro e w0 ⟨rfl, rfl⟩
    go_wp2_with fail
    go_ret
    exact ⟨rfl, b0⟩
end
section
open Go.RowKit Oct
theorem le8_at' (u : Int) (k : Nat) (hk : k < 8) : u / 256 ^ k % 256 = (le8 u).getD k 0 := by
  have := le8_at u k hk (8 * k) rfl
  rw [← this, Int.pow_mul]
  rfl
theorem u64_bd (n : Int) : 0 ≤ u64 n ∧ u64 n < 18446744073709551616 := by unfold u64; omega
theorem div_step (u : Int) (j : Nat) : u / 256 ^ j / 256 = u / 256 ^ (j + 1) := by
  rw [Int.pow_succ, Int.ediv_ediv_of_nonneg (by exact Int.le_of_lt (Int.pow_pos (by decide)))]
theorem div_bd {u : Int} (h0 : 0 ≤ u) (h1 : u < 18446744073709551616) (j : Nat) : 0 ≤ u / 256 ^ j ∧ u / 256 ^ j < 18446744073709551616 :=
  ⟨Int.ediv_nonneg h0 (Int.le_of_lt (Int.pow_pos (by decide))), Int.lt_of_le_of_lt (Int.ediv_le_self _ h0) h1⟩
theorem wrap_u64 (n : Int) : IntKind.u64.wrap n = u64 n := rfl
theorem idx0 (a b : Int) (w : World) : (Instr.index 110 (.agg #[.int .u64 a, .int .u64 b]) (.int .i64 0)).run Tryz.prog w = .ok (.int .u64 a) w := by kernel_rfl
theorem idx1 (a b : Int) (w : World) : (Instr.index 110 (.agg #[.int .u64 a, .int .u64 b]) (.int .i64 1)).run Tryz.prog w = .ok (.int .u64 b) w := by kernel_rfl
set_option maxRecDepth 10000 in
set_option maxHeartbeats 2000000 in
/-- The document's Body. -/
theorem refBody_any (w : World) (r : List Value) (x : PReq) (h : RReq Any w r x) (hz : tot [x.2.2.1, x.2.2.2] ≤ 10000000) :
    Calls Tryz.prog 39 #[.agg r.toArray] w fun e w' => ∃ v', e = .returned v' ∧ Own w' 5 v' (bc (body x)) ∧ Fr w.heap.size v' ∧ Below w.heap.size w w' := by
  obtain ⟨vo, vg, rfl, ho, hg⟩ := h
  obtain ⟨w2, hw2⟩ : ∃ w2, w2 = (w.alloc (.cells #[.int .i64 x.1, .int .i64 x.2.1, vo, vg] 62)) := ⟨_, rfl⟩
  have ra : Row w2 w.heap.size 62 [.int .i64 x.1, .int .i64 x.2.1, vo, vg] := by rw [hw2]; exact Row.new w 62 _
  have hB : Below w.heap.size w w2 := by rw [hw2]; exact ((Below.refl _ w).alloc (Nat.le_refl _) _)
  go_enter Tryz.func39, Tryz.ntmps39
  go_upto_region 1 with fail
  rw [← hw2]
  clear hw2
  have a0 := (row_alloc ra (.cells #[] 5)).cell (j := 0) rfl
  have a1 := (row_alloc ra (.cells #[] 5)).cell (j := 1) rfl
  go_wp2_with fail
  rw [wrap_u64, wrap_u64]
  have hstart : Own (w2.alloc (.cells #[] 5)) 5 (.slice (some ⟨w2.heap.size, 0, none⟩) 0 0) (bc []) := own_zero w2 5
  have hB0 : Below w2.heap.size w2 (w2.alloc (.cells #[] 5)) := below_alloc _ _
  have hF0 : Fr w2.heap.size (.slice (some ⟨w2.heap.size, 0, none⟩) 0 0) := fun k hk => by simp [Value.ownBlock] at hk; omega
  have HZ := (show Hid (x.2.2.1.length ≤ 10000000 ∧ x.2.2.2.length ≤ 10000000) by show _ ∧ _; simp only [tot] at hz; omega)
  have HS := (show Hid (∀ wr, Below w2.heap.size w2 wr → wr.cell? ⟨w.heap.size, 2, none⟩ = some vo ∧ wr.cell? ⟨w.heap.size, 3, none⟩ = some vg ∧ Rd wr vo x.2.2.1 ∧ Rd wr vg x.2.2.2) from fun wr hb =>
    ⟨(ra.below hb).cell (j := 2) rfl, (ra.below hb).cell (j := 3) rfl, (ho.mv (Mv.below (below_and hB (Nat.le_refl _) hb))).1, (hg.mv (Mv.below (below_and hB (Nat.le_refl _) hb))).1⟩)
  clear ra ho hg
  generalize w2.alloc (.cells #[] 5) = w3 at *
  go_loopw [3, 15] (fun o i wr => ∃ k : Int, k ≤ 2 ∧ i = .int .i64 k ∧ ((k = 0 ∧ Own wr 5 o (bc [])) ∨ (k = 1 ∧ Own wr 5 o (bc ([] ++ le8 (u64 x.1)))) ∨ (k = 2 ∧ Own wr 5 o (bc (le8 (u64 x.1) ++ le8 (u64 x.2.1))))) ∧ Fr w2.heap.size o ∧ Below w2.heap.size w2 wr) (fun _ i _ => (2 - intOf i).toNat)
  case atStart => exact ⟨0, by omega, rfl, .inl ⟨rfl, hstart⟩, hF0, hB0⟩
  case round =>
    clear hstart hF0 hB0 a0 a1
    obtain ⟨k, hk, rfl, hcase, hfk, hbk⟩ := hrel
    rcases hcase with ⟨rfl, hok⟩ | ⟨rfl, hok⟩ | ⟨rfl, hok⟩
    · have hub := u64_bd x.1
      have hix := idx0 (u64 x.1) (u64 x.2.1) wr
      have HD := (show Hid (([] : List Int).length ≤ 8) from Nat.zero_le 8)
      go_wp2_with fail
      go_loopw [3, 5, 6] (fun o n i wr => ∃ (j : Nat) (q : Int), j ≤ 8 ∧ i = .int .i64 j ∧ n = .int .u64 q ∧ Hid (q = u64 x.1 / 256 ^ j) ∧ Own wr 5 o (bc ([] ++ (le8 (u64 x.1)).take j)) ∧ Fr w2.heap.size o ∧ Below w2.heap.size w2 wr) (fun _ _ i _ => (8 - intOf i).toNat)
      case atStart => exact ⟨0, u64 x.1, by omega, rfl, rfl, by show _ = _; simp, by rw [List.take_zero, List.append_nil]; exact hok, hfk, hbk⟩
      case round =>
        clear hok hfk hbk hix
        obtain ⟨j, q, hj, rfl, rfl, HQ, hok, hfk, hbk⟩ := hrel
        by_cases hj8 : j < 8
        · have hq := div_bd hub.1 hub.2 j
          rw [← HQ.out] at hq
          obtain ⟨hq0, hq1⟩ := hq
          have hq2 : 0 ≤ q % 256 ∧ q % 256 ≤ 255 := by omega
          have hq3 : 0 ≤ q / 256 ∧ q / 256 < 18446744073709551616 := by omega
          have HX := (show Hid ([] ++ (le8 (u64 x.1)).take (j + 1) = ([] ++ (le8 (u64 x.1)).take j) ++ [q % 256]) by
            show _ = _
            rw [HQ.out, le8_at' _ _ hj8]
            exact le8_take _ _ _ hj8)
          have HN := (show Hid (q / 256 = u64 x.1 / 256 ^ (j + 1)) by show _ = _; rw [HQ.out, div_step])
          have HT := (show Hid (([] ++ (le8 (u64 x.1)).take j).length ≤ 1000) by
            show _ ≤ _
            have := HD.out
            rw [List.length_append, List.length_take, le8_len]
            omega)
          clear HQ
          go_wp2_with (at_builtin; refine app_bytes rfl _ _ rfl _ ([] ++ (le8 (u64 x.1)).take j) rfl (World.ownsRow.alloc hok _) _ [q % 256] rfl (rdv_one wr _ _) (by have := HT.out; simp only [List.length_cons, List.length_nil]; omega) ?_; intro o4 w4 happ4)
          have hp4 := happ4.pre (below_alloc wr _)
          rw [← HX.out] at hp4
          have hf4 := hp4.fr hfk hbk.size
          have hb4 := hbk.trans (hp4.below hfk hbk.size)
          have hgo := hp4.own
          clear hp4 happ4 hok hfk hbk
          go_roundw
          case rel => exact ⟨j + 1, q / 256, by omega, by go_num, by rfl, HN, hgo, hf4, hb4⟩
          case measure => simp [intOf]; omega
        · rw [List.take_of_length_le (by rw [le8_len]; omega)] at hok
          clear HQ
          go_wp2_with fail
          go_roundw
          case rel => exact ⟨1, by omega, by go_num, .inr (.inl ⟨rfl, hok⟩), hfk, hbk⟩
          case measure => simp [intOf]
    · rw [List.nil_append] at hok
      have hub := u64_bd x.2.1
      have hix := idx1 (u64 x.1) (u64 x.2.1) wr
      have HD := (show Hid ((le8 (u64 x.1)).length ≤ 8) from Nat.le_refl 8)
      go_wp2_with fail
      go_loopw [3, 5, 6] (fun o n i wr => ∃ (j : Nat) (q : Int), j ≤ 8 ∧ i = .int .i64 j ∧ n = .int .u64 q ∧ Hid (q = u64 x.2.1 / 256 ^ j) ∧ Own wr 5 o (bc (le8 (u64 x.1) ++ (le8 (u64 x.2.1)).take j)) ∧ Fr w2.heap.size o ∧ Below w2.heap.size w2 wr) (fun _ _ i _ => (8 - intOf i).toNat)
      case atStart => exact ⟨0, u64 x.2.1, by omega, rfl, rfl, by show _ = _; simp, by rw [List.take_zero, List.append_nil]; exact hok, hfk, hbk⟩
      case round =>
        clear hok hfk hbk hix
        obtain ⟨j, q, hj, rfl, rfl, HQ, hok, hfk, hbk⟩ := hrel
        by_cases hj8 : j < 8
        · have hq := div_bd hub.1 hub.2 j
          rw [← HQ.out] at hq
          obtain ⟨hq0, hq1⟩ := hq
          have hq2 : 0 ≤ q % 256 ∧ q % 256 ≤ 255 := by omega
          have hq3 : 0 ≤ q / 256 ∧ q / 256 < 18446744073709551616 := by omega
          have HX := (show Hid (le8 (u64 x.1) ++ (le8 (u64 x.2.1)).take (j + 1) = (le8 (u64 x.1) ++ (le8 (u64 x.2.1)).take j) ++ [q % 256]) by
            show _ = _
            rw [HQ.out, le8_at' _ _ hj8]
            exact le8_take _ _ _ hj8)
          have HN := (show Hid (q / 256 = u64 x.2.1 / 256 ^ (j + 1)) by show _ = _; rw [HQ.out, div_step])
          have HT := (show Hid ((le8 (u64 x.1) ++ (le8 (u64 x.2.1)).take j).length ≤ 1000) by
            show _ ≤ _
            have := HD.out
            rw [List.length_append, List.length_take, le8_len]
            omega)
          clear HQ
          go_wp2_with (at_builtin; refine app_bytes rfl _ _ rfl _ (le8 (u64 x.1) ++ (le8 (u64 x.2.1)).take j) rfl (World.ownsRow.alloc hok _) _ [q % 256] rfl (rdv_one wr _ _) (by have := HT.out; simp only [List.length_cons, List.length_nil]; omega) ?_; intro o4 w4 happ4)
          have hp4 := happ4.pre (below_alloc wr _)
          rw [← HX.out] at hp4
          have hf4 := hp4.fr hfk hbk.size
          have hb4 := hbk.trans (hp4.below hfk hbk.size)
          have hgo := hp4.own
          clear hp4 happ4 hok hfk hbk
          go_roundw
          case rel => exact ⟨j + 1, q / 256, by omega, by go_num, by rfl, HN, hgo, hf4, hb4⟩
          case measure => simp [intOf]; omega
        · rw [List.take_of_length_le (by rw [le8_len]; omega)] at hok
          clear HQ
          go_wp2_with fail
          go_roundw
          case rel => exact ⟨2, by omega, by go_num, .inr (.inr ⟨rfl, hok⟩), hfk, hbk⟩
          case measure => simp [intOf]
    · have ho5 := HS.out wr hbk
      obtain ⟨c2, c3, ho5, hg5⟩ := ho5
      have hbO := refBytes_any wr vo _ ho5 (by have := HZ.out; omega)
      have HG := (show Hid (∀ w', Below w2.heap.size w2 w' → Calls Tryz.prog 67 #[vg] w' fun e w'' => ∃ v', e = .returned v' ∧ Own w'' 5 v' (bc (enc x.2.2.2.length ++ x.2.2.2)) ∧ Fr w'.heap.size v' ∧ Below w'.heap.size w' w'') from
        fun w' hb' => refBytes_any w' vg _ (HS.out w' hb').2.2.2 (by have := HZ.out; omega))
      have HLL := (show Hid ((le8 (u64 x.1) ++ le8 (u64 x.2.1)).length ≤ 16) from Nat.le_refl 16)
      have HBD := (show Hid (body x = ((le8 (u64 x.1) ++ le8 (u64 x.2.1)) ++ (enc x.2.2.1.length ++ x.2.2.1)) ++ (enc x.2.2.2.length ++ x.2.2.2)) by show _ = _; simp [body, packL])
      generalize le8 (u64 x.1) ++ le8 (u64 x.2.1) = L at *
      have hl1 := enc_len (x.2.2.1.length : Int)
      have hl2 := enc_len (x.2.2.2.length : Int)
      have HL1 := (show Hid (L.length + (enc x.2.2.1.length ++ x.2.2.1).length ≤ 20000000) by show _ ≤ _; have := HLL.out; have := HZ.out; rw [List.length_append]; omega)
      have HL2 := (show Hid ((L ++ (enc x.2.2.1.length ++ x.2.2.1)).length + (enc x.2.2.2.length ++ x.2.2.2).length ≤ 40000000) by show _ ≤ _; have := HLL.out; have := HZ.out; rw [List.length_append, List.length_append, List.length_append]; omega)
      clear hl1 hl2
      generalize enc x.2.2.1.length ++ x.2.2.1 = t1 at *
      generalize enc x.2.2.2.length ++ x.2.2.2 = t2 at *
      have HO := (show Hid (∀ _ : Unit, _) from fun _ => hbO)
      clear hbO ho5 hg5 c3
      go_wp2_with fail
      refine (HO.out ()).mono ?_
      rintro e w5 ⟨v5, rfl, hown5, hfr5, hb5⟩
      have hok5 := hok.below hb5
      have hrd5 := hown5.rdv
      have hBk5 := below_and hbk (Nat.le_refl _) hb5
      clear c2 hok hown5 hfr5 hb5 HO hbk
      go_wp2_with (first
        | (at_builtin; refine app_bytes rfl _ _ rfl _ L rfl hok5 v5 t1 rfl hrd5 (Nat.le_trans HL1.out (by decide)) ?_; intro v6 w6 happ6; have hB6 := hBk5.trans (happ6.below hfk hBk5.size); have hf6 := happ6.fr hfk hBk5.size; have hok6 := happ6.own; have c3 := (HS.out w6 hB6).2.1))
      refine (HG.out w6 hB6).mono ?_
      rintro e w7 ⟨v7, rfl, hown7, hfr7, hb7⟩
      have hok7 := hok6.below hb7
      have hrd7 := hown7.rdv
      have hB7 := below_and hB6 (Nat.le_refl _) hb7
      clear c3 hok6 hown7 hfr7 hb7 HG hok5 hrd5 happ6
      go_wp2_with (at_builtin; refine app_bytes rfl _ _ rfl v6 (L ++ t1) rfl hok7 v7 t2 rfl hrd7 (Nat.le_trans HL2.out (by decide)) ?_; intro v8 w8 happ8)
      have hf8 := happ8.fr hf6 hB7.size
      have hB8 := hB7.trans (happ8.below hf6 hB7.size)
      go_ret
      refine ⟨_, rfl, ?_, hf8.mono hB.size, below_and hB (Nat.le_refl _) hB8⟩
      rw [HBD.out]
      exact happ8.own
end
end Go.Proofs.YtgbfmccecnfooaaGreatDoor
