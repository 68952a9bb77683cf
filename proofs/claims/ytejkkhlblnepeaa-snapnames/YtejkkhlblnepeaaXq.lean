/- The walks over package session: rightSessions, isAtEnd, isNoRequest, Right. (Made by mk9g.py.) -/
import Derived.Test.YtejkkhlblnepeaaXg
import Derived.Test.YtejkkhlblnepeaaKg
import Derived.Test.YtejkkhlblnepeaaKp
set_option linter.unusedVariables false
set_option linter.unusedSimpArgs false
namespace Go.Proofs.Ytejkkhlblnepeaa
open Go.RowKit Oct Kvl

theorem rng2 {w : World} {b : Nat} {t : TypeId} {c d k a : Value} (h : Row w b t [c, d, k, a]) : w.rangeAt b 2 [k, a] := fun j v hj => h.cell (by
  match j, hj with
  | 0, hj => exact hj
  | 1, hj => exact hj)

set_option maxRecDepth 10000 in
set_option maxHeartbeats 4000000 in
/-- session.rightSessions. -/
theorem rightSess_any (w : World) (v : Value) (ys : List PEnt) (h : RL RSes 4 Any w v ys) :
    Calls Try.prog 39 #[v] w fun e w' => e = .returned (.bool (decide (rgtN ys))) ∧ Below w.heap.size w w' := by
  by_cases hl : 0 < ys.length
  rotate_left
  · obtain rfl : ys = [] := List.eq_nil_of_length_eq_zero (by omega)
    obtain ⟨ao, cap, rfl, _⟩ := h.form
    go_enter Try.func39, Try.ntmps39
    go_wp2_with fail
    refine wp_loop_rounds 1 ?_; rw [rounds_succ]
    go_wp2_with fail
    go_ret
    exact ⟨ret_bool (by decide), Below.refl _ _⟩
  obtain ⟨b, off, cap, rfl, hc, hm, _, hb, hx⟩ := h.at hl
  have HX := (show Hid (∀ (i : Nat) (a : PEnt), ys[i]? = some a → ∃ r, r.length = 4 ∧ w.rangeAt b (off + i * 4) r ∧ RSes Any w r a) from hx)
  have hlm : (ys.length : Int) ≤ 9223372036854775807 := by unfold maxLen at hm; omega
  clear hx h hm
  obtain ⟨n, hn⟩ : ∃ n, n = ys.length := ⟨_, rfl⟩
  rw [← hn] at hlm hl hc ⊢
  have HN := (show Hid (ys.length = n) from hn.symm)
  clear hn
  go_enter Try.func39, Try.ntmps39
  go_wp2_with fail
  go_loopw [3, 8] (fun s i wr => ∃ (q : Nat) (m : Int), q ≤ n ∧ i = .int .i64 q ∧ s = .int .i64 m ∧ Below w.heap.size w wr ∧ Hid (rgtN ys ↔ chkN m (ys.drop q))) (fun _ i _ => n - (intOf i).toNat)
  case atStart => exact ⟨0, 0, by omega, rfl, rfl, Below.refl _ _, Iff.rfl⟩
  case round =>
    obtain ⟨q, m, hq, rfl, rfl, hB, hI⟩ := hrel
    by_cases hql : q < n
    · obtain ⟨x, hx⟩ : ∃ x, ys[q]? = some x := ⟨_, List.getElem?_eq_getElem (by have := HN.out; omega)⟩
      obtain ⟨r, _, hrng, c1, d1, k1, s1, l1, rfl, t1, t2⟩ := HX.out q x hx
      have hrng := rangeAt_block hrng (hB.block b hb)
      obtain ⟨a1, cp1, rfl, hc1⟩ := t1.form
      have hrow0 := Row.new wr 48 [.int .i64 0, .int .i64 0, .int .i64 0, .slice none 0 0]
      have HD := (show Hid (ys.drop q = x :: ys.drop (q + 1)) from drop_cons hx)
      have HP := (show Hid (x = ([c1], d1 :: k1 :: l1)) from t2)
      have hone := onN4 (c := c1) (d := d1) (k := k1) t1.one
      clear hx t2 t1
      obtain ⟨L1, hL1⟩ : ∃ L, l1.length = L := ⟨_, rfl⟩
      rw [hL1] at hrng hone
      have HL := (show Hid (l1.length = L1) from hL1)
      clear hL1
      have HCL := (show Hid (∀ u, Calls Try.prog 58 #[.int .i64 c1] u fun e w' => e = .returned (.bool (decide (1 ≤ c1 ∧ c1 ≤ 4))) ∧ w' = u) from fun u => isClientN_any u c1)
      have HST := (show Hid (∀ u, Calls Try.prog 59 #[.int .i64 d1] u fun e w' => e = .returned (.bool (decide (1 ≤ d1 ∧ d1 ≤ 2147483647))) ∧ w' = u) from fun u => isStamp_any u d1)
      have HRS := (show Hid (∀ u, Calls Try.prog 60 #[.agg #[.int .i64 k1, .slice a1 L1 cp1]] u fun e w' => e = .returned (.bool (decide ((0 ≤ k1 ∧ k1 ≤ 6) ∧ L1 ≤ 64))) ∧ Below u.heap.size u w') from fun u => rightResult_any u k1 a1 L1 cp1)
      by_cases g1 : c1 ≤ m
      · go_wp2_with (first
          | (refine wpList_load_mid rfl _ _ rfl b (off + q * 4) rfl [.int .i64 c1, .int .i64 d1, .int .i64 k1, .slice a1 L1 cp1] _ hrng Try.underlying48 rfl (by kernel_rfl) ?_)
          | (refine wl_store rfl _ _ _ rfl wr.heap.size [.int .i64 c1, .int .i64 d1, .int .i64 k1, .slice a1 L1 cp1] rfl rfl _ _ hrow0 rfl (by kernel_rfl) hone ?_; intro w5 hr5 hg5; have hb5 : Below wr.heap.size wr w5 := (below_alloc wr _).trans (grown_below hg5 (by simp) (fun k hk => by cases hk; exact Nat.le_refl _)); have e0 := hr5.out.cell (j := 0) rfl; have e1 := hr5.out.cell (j := 1) rfl; have er := rng2 hr5.out))
        go_ret
        refine ⟨ret_bool (decide_eq_false fun h => ?_).symm, below_and hB (Nat.le_refl _) hb5⟩
        have h2 := hI.out.1 h
        rw [HD.out] at h2
        have h3 := h2.1.1
        rw [HP.out] at h3
        have h4 : m < c1 := h3
        omega
      have g1' : decide (c1 ≤ m) = false := by simp; omega
      by_cases g2 : 1 ≤ c1 ∧ c1 ≤ 4
      rotate_left
      · rw [decide_eq_false g2] at HCL
        go_wp2_with (first
          | (refine wpList_load_mid rfl _ _ rfl b (off + q * 4) rfl [.int .i64 c1, .int .i64 d1, .int .i64 k1, .slice a1 L1 cp1] _ hrng Try.underlying48 rfl (by kernel_rfl) ?_)
          | (refine wl_store rfl _ _ _ rfl wr.heap.size [.int .i64 c1, .int .i64 d1, .int .i64 k1, .slice a1 L1 cp1] rfl rfl _ _ hrow0 rfl (by kernel_rfl) hone ?_; intro w5 hr5 hg5; have hb5 : Below wr.heap.size wr w5 := (below_alloc wr _).trans (grown_below hg5 (by simp) (fun k hk => by cases hk; exact Nat.le_refl _)); have e0 := hr5.out.cell (j := 0) rfl; have e1 := hr5.out.cell (j := 1) rfl; have er := rng2 hr5.out)
          | (go_at_call 58; refine (HCL.out w5).mono ?_; rintro e w5 ⟨rfl, rfl⟩))
        go_ret
        refine ⟨ret_bool (decide_eq_false fun h => ?_).symm, below_and hB (Nat.le_refl _) hb5⟩
        have h2 := hI.out.1 h
        rw [HD.out] at h2
        have h3 := h2.1.2.1
        rw [HP.out] at h3
        exact g2 h3
      rw [decide_eq_true g2] at HCL
      by_cases g3 : 1 ≤ d1 ∧ d1 ≤ 2147483647
      rotate_left
      · rw [decide_eq_false g3] at HST
        go_wp2_with (first
          | (refine wpList_load_mid rfl _ _ rfl b (off + q * 4) rfl [.int .i64 c1, .int .i64 d1, .int .i64 k1, .slice a1 L1 cp1] _ hrng Try.underlying48 rfl (by kernel_rfl) ?_)
          | (refine wl_store rfl _ _ _ rfl wr.heap.size [.int .i64 c1, .int .i64 d1, .int .i64 k1, .slice a1 L1 cp1] rfl rfl _ _ hrow0 rfl (by kernel_rfl) hone ?_; intro w5 hr5 hg5; have hb5 : Below wr.heap.size wr w5 := (below_alloc wr _).trans (grown_below hg5 (by simp) (fun k hk => by cases hk; exact Nat.le_refl _)); have e0 := hr5.out.cell (j := 0) rfl; have e1 := hr5.out.cell (j := 1) rfl; have er := rng2 hr5.out)
          | (go_at_call 58; refine (HCL.out w5).mono ?_; rintro e w5 ⟨rfl, rfl⟩)
          | (go_at_call 59; refine (HST.out w5).mono ?_; rintro e w5 ⟨rfl, rfl⟩))
        go_ret
        refine ⟨ret_bool (decide_eq_false fun h => ?_).symm, below_and hB (Nat.le_refl _) hb5⟩
        have h2 := hI.out.1 h
        rw [HD.out] at h2
        have h3 := h2.1.2.2.1
        rw [HP.out] at h3
        exact g3 h3
      rw [decide_eq_true g3] at HST
      by_cases g4 : (0 ≤ k1 ∧ k1 ≤ 6) ∧ L1 ≤ 64
      rotate_left
      · rw [decide_eq_false g4] at HRS
        go_wp2_with (first
          | (refine wpList_load_mid rfl _ _ rfl b (off + q * 4) rfl [.int .i64 c1, .int .i64 d1, .int .i64 k1, .slice a1 L1 cp1] _ hrng Try.underlying48 rfl (by kernel_rfl) ?_)
          | (refine wl_store rfl _ _ _ rfl wr.heap.size [.int .i64 c1, .int .i64 d1, .int .i64 k1, .slice a1 L1 cp1] rfl rfl _ _ hrow0 rfl (by kernel_rfl) hone ?_; intro w5 hr5 hg5; have hb5 : Below wr.heap.size wr w5 := (below_alloc wr _).trans (grown_below hg5 (by simp) (fun k hk => by cases hk; exact Nat.le_refl _)); have e0 := hr5.out.cell (j := 0) rfl; have e1 := hr5.out.cell (j := 1) rfl; have er := rng2 hr5.out)
          | (go_at_call 58; refine (HCL.out w5).mono ?_; rintro e w5 ⟨rfl, rfl⟩)
          | (go_at_call 59; refine (HST.out w5).mono ?_; rintro e w5 ⟨rfl, rfl⟩)
          | (refine wl_load_mid_w (by rfl) _ _ rfl wr.heap.size 2 rfl [.int .i64 k1, .slice a1 L1 cp1] _ er Try.underlying46 rfl (by kernel_rfl) ?_)
          | (go_at_call 60; refine (HRS.out w5).mono ?_; rintro e w6 ⟨rfl, hb6⟩; have e0 := keepE (w := w5) hb6 e0))
        go_ret
        refine ⟨ret_bool (decide_eq_false fun h => ?_).symm, below_and hB (Nat.le_refl _) (below_and hb5 (Nat.le_refl _) hb6)⟩
        have h2 := hI.out.1 h
        rw [HD.out] at h2
        have h3 := h2.1.2.2.2
        rw [HP.out] at h3
        exact g4 ⟨h3.1, by rw [← HL.out]; exact h3.2⟩
      rw [decide_eq_true g4] at HRS
      go_wp2_with (first
        | (refine wpList_load_mid rfl _ _ rfl b (off + q * 4) rfl [.int .i64 c1, .int .i64 d1, .int .i64 k1, .slice a1 L1 cp1] _ hrng Try.underlying48 rfl (by kernel_rfl) ?_)
        | (refine wl_store rfl _ _ _ rfl wr.heap.size [.int .i64 c1, .int .i64 d1, .int .i64 k1, .slice a1 L1 cp1] rfl rfl _ _ hrow0 rfl (by kernel_rfl) hone ?_; intro w5 hr5 hg5; have hb5 : Below wr.heap.size wr w5 := (below_alloc wr _).trans (grown_below hg5 (by simp) (fun k hk => by cases hk; exact Nat.le_refl _)); have e0 := hr5.out.cell (j := 0) rfl; have e1 := hr5.out.cell (j := 1) rfl; have er := rng2 hr5.out)
        | (go_at_call 58; refine (HCL.out w5).mono ?_; rintro e w5 ⟨rfl, rfl⟩)
        | (go_at_call 59; refine (HST.out w5).mono ?_; rintro e w5 ⟨rfl, rfl⟩)
        | (refine wl_load_mid_w (by rfl) _ _ rfl wr.heap.size 2 rfl [.int .i64 k1, .slice a1 L1 cp1] _ er Try.underlying46 rfl (by kernel_rfl) ?_)
        | (go_at_call 60; refine (HRS.out w5).mono ?_; rintro e w6 ⟨rfl, hb6⟩; have e0 := keepE (w := w5) hb6 e0))
      go_roundw
      case rel =>
        refine ⟨q + 1, c1, by omega, by go_num, rfl, below_and hB (Nat.le_refl _) (below_and hb5 (Nat.le_refl _) hb6), ?_⟩
        have h1 := hI.out
        rw [HD.out, HP.out] at h1
        refine h1.trans ⟨fun h => h.2, fun h => ⟨⟨?_, g2, g3, g4.1, by rw [← HL.out] at g4; exact g4.2⟩, h⟩⟩
        show m < c1
        omega
      case measure => simp [intOf]; omega
    · have hqd : decide ((q : Int) < n) = false := by simp; omega
      go_wp2_with fail
      go_ret
      refine ⟨ret_bool (decide_eq_true ?_).symm, hB⟩
      rw [hI.out, List.drop_of_length_le (by have := HN.out; omega)]
      exact trivial

end Go.Proofs.Ytejkkhlblnepeaa
