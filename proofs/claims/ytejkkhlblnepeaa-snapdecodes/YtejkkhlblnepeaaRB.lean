/- The document's Right over states. (Made by mk9r.py.) -/
import Derived.Test.YtejkkhlblnepeaaXB
import Derived.Test.YtejkkhlblnepeaaKw
import Derived.Test.YtejkkhlblnepeaaHE
section
set_option linter.unusedVariables false
set_option linter.unusedSimpArgs false
namespace Go.Proofs.Ytejkkhlblnepeaa
open Go.RowKit Oct Kvl

set_option maxRecDepth 10000 in
set_option maxHeartbeats 8000000 in
/-- The document's Right. -/
theorem refRightA_any (w : World) (r : List Value) (a : PApp) (h : RApp Any w r a) :
    Calls Try.prog 21 #[.agg r.toArray] w fun e w' => e = .returned (.bool (decide (rgtA a))) ∧ Below w.heap.size w w' := by
  have le := Nat.le_refl w.heap.size
  obtain ⟨ve, vl, vs, rfl, h1, h2, h3⟩ := h
  obtain ⟨w0, hw0⟩ : ∃ w0, w0 = w.alloc (.cells #[.int .i64 a.1, ve, vl, vs] 27) := ⟨_, rfl⟩
  have B0 : Below w.heap.size w w0 := by rw [hw0]; exact below_alloc _ _
  have r0 : Row w0 w.heap.size 27 [.int .i64 a.1, ve, vl, vs] := by rw [hw0]; exact Row.new w 27 _
  have hR1 := refRight_any w0 ve _ (h1.mv mov_ent B0.size (Mv.below B0))
  have HR2 := (show Hid (∀ u, Below w.heap.size w u → Calls Try.prog 43 #[vl] u fun e w' => e = .returned (.bool (decide (rgtS a.2.2.1))) ∧ Below u.heap.size u w') from fun u hu => refRightS_any u _ _ (h2.mv mov_lea hu.size (Mv.below hu)))
  have H3 := (show Hid (RL RSes 4 Any w vs a.2.2.2) from h3)
  have HD := (show Hid (rgtA a ↔ (0 ≤ a.1 ∧ a.1 ≤ 1000000) ∧ rgtL a.2.1 ∧ rgtS a.2.2.1 ∧ rgtN a.2.2.2) from Iff.rfl)
  generalize hys : a.2.2.2 = ys at *
  clear h1 h2 hys
  have c0 := r0.cell (j := 0) rfl
  have c1 := r0.cell (j := 1) rfl
  obtain ⟨d, hd⟩ : ∃ d, d = decide (rgtA a) := ⟨_, rfl⟩
  rw [← hd]
  have HDD := (show Hid (d = decide (rgtA a)) from hd)
  clear hd
  by_cases s1 : a.1 < 0
  · have s1' : decide (a.1 < 0) = true := by simp [s1]
    go_enter Try.func21, Try.ntmps21
    go_upto_region 1 with fail
    rw [← hw0]
    clear hw0
    go_wp2_with fail
    go_ret
    exact ⟨ret_bool (by rw [HDD.out]; exact (decide_eq_false fun h => by have := (HD.out.1 h).1.1; omega).symm), B0⟩
  have s1' : decide (a.1 < 0) = false := by simp; omega
  by_cases s2 : 1000000 < a.1
  · have s2' : decide (1000000 < a.1) = true := by simp [s2]
    go_enter Try.func21, Try.ntmps21
    go_upto_region 1 with fail
    rw [← hw0]
    clear hw0
    go_wp2_with fail
    go_ret
    exact ⟨ret_bool (by rw [HDD.out]; exact (decide_eq_false fun h => by have := (HD.out.1 h).1.2; omega).symm), B0⟩
  have s2' : decide (1000000 < a.1) = false := by simp; omega
  by_cases s3 : rgtL a.2.1
  rotate_left
  · rw [decide_eq_false s3] at hR1
    go_enter Try.func21, Try.ntmps21
    go_upto_region 1 with fail
    rw [← hw0]
    clear hw0
    go_wp2_with (go_at_call 42; refine hR1.mono ?_; rintro e w1 ⟨rfl, hb1⟩)
    go_ret
    exact ⟨ret_bool (by rw [HDD.out]; exact (decide_eq_false fun h => s3 (HD.out.1 h).2.1).symm), below_and B0 le hb1⟩
  rw [decide_eq_true s3] at hR1
  by_cases s4 : rgtS a.2.2.1
  rotate_left
  · rw [decide_eq_false s4] at HR2
    have S4 := (show Hid (¬ rgtS a.2.2.1) from s4)
    clear s4 s3
    go_enter Try.func21, Try.ntmps21
    go_upto_region 1 with fail
    rw [← hw0]
    clear hw0
    go_wp2_with (first
      | (go_at_call 42; refine hR1.mono ?_; rintro e w1 ⟨rfl, hb1⟩; have B1 := below_and B0 le hb1; have c2 := (r0.below hb1).cell (j := 2) rfl)
      | (go_at_call 43; refine (HR2.out w1 B1).mono ?_; rintro e w2 ⟨rfl, hb2⟩))
    go_ret
    exact ⟨ret_bool (by rw [HDD.out]; exact (decide_eq_false fun h => S4.out (HD.out.1 h).2.2.1).symm), below_and B1 le hb2⟩
  rw [decide_eq_true s4] at HR2
  have HDN := (show Hid (rgtA a ↔ rgtN ys) from ⟨fun h => (HD.out.1 h).2.2.2, fun h => HD.out.2 ⟨⟨by omega, by omega⟩, s3, s4, h⟩⟩)
  clear HD s3 s4
  obtain ⟨asv, cs, hvs, hcs⟩ := h3.form
  subst hvs
  have hlm : (ys.length : Int) ≤ 9223372036854775807 := by
    rcases Nat.eq_zero_or_pos ys.length with h0 | h0
    · omega
    · obtain ⟨_, _, cap, _, hc, hm, _⟩ := h3.at h0
      unfold maxLen at hm
      omega
  obtain ⟨n, hn⟩ : ∃ n, n = ys.length := ⟨_, rfl⟩
  rw [← hn] at hlm r0 hw0 ⊢
  have HX := (show Hid (∀ (q : Nat) (x : PEnt), ys[q]? = some x → ∃ b off cap, asv = some ⟨b, off, none⟩ ∧ b < w.heap.size ∧ ∃ r, w.rangeAt b (off + q * 4) r ∧ RSes Any w r x) from fun q x hx => by
    have hl : 0 < ys.length := by have := (List.getElem?_eq_some_iff.1 hx).1; omega
    obtain ⟨b, off, cap, e, hc, hm, _, hb, hx'⟩ := h3.at hl
    injection e with e1 e2 e3
    obtain ⟨r, _, hr, hs⟩ := hx' q x hx
    exact ⟨b, off, cap, e1, hb, r, hr, hs⟩)
  have HN := (show Hid (ys.length = n) from hn.symm)
  clear h3 H3 hn hcs
  go_enter Try.func21, Try.ntmps21
  go_upto_region 1 with fail
  rw [← hw0]
  clear hw0
  go_upto_region 3 with (first
    | (go_at_call 42; refine hR1.mono ?_; rintro e w1 ⟨rfl, hb1⟩; have B1 := below_and B0 le hb1; have c2 := (r0.below hb1).cell (j := 2) rfl)
    | (go_at_call 43; refine (HR2.out w1 B1).mono ?_; rintro e w2 ⟨rfl, hb2⟩))
  have B2 := below_and B1 le hb2
  have c3 := ((r0.below hb1).below hb2).cell (j := 3) rfl
  clear hR1 HR2 c0 c1 c2 hb1 hb2 B1 r0 B0
  go_wp2_with fail
  go_loopw [3, 29] (fun s i wr => ∃ (q : Nat) (m : Int), q ≤ n ∧ i = .int .i64 q ∧ s = .int .i64 m ∧ 0 ≤ m ∧ Below w.heap.size w wr ∧ Hid (rgtN ys ↔ chkN m (ys.drop q))) (fun _ i _ => n - (intOf i).toNat)
  case atStart => exact ⟨0, 0, by omega, rfl, rfl, by omega, B2, Iff.rfl⟩
  case round =>
    obtain ⟨q, m, hq, rfl, rfl, hm0, hB, hI⟩ := hrel
    by_cases hql : q < n
    · obtain ⟨x, hx⟩ : ∃ x, ys[q]? = some x := ⟨_, List.getElem?_eq_getElem (by have := HN.out; omega)⟩
      obtain ⟨b, off, cap, rfl, hb, r, hrng, c1, d1, k1, s1, l1, rfl, t1, t2⟩ := HX.out q x hx
      have hrng := rangeAt_block hrng (hB.block b hb)
      obtain ⟨a1, cp1, rfl, hc1⟩ := t1.form
      have hrow0 := Row.new wr 48 [.int .i64 0, .int .i64 0, .int .i64 0, .slice none 0 0]
      have HDR := (show Hid (ys.drop q = x :: ys.drop (q + 1)) from drop_cons hx)
      have HP := (show Hid (x = ([c1], d1 :: k1 :: l1)) from t2)
      have hone := onN4 (c := c1) (d := d1) (k := k1) t1.one
      clear hx t2 t1
      obtain ⟨L1, hL1⟩ : ∃ L, l1.length = L := ⟨_, rfl⟩
      rw [hL1] at hrng hone
      have HL := (show Hid (l1.length = L1) from hL1)
      clear hL1
      have hqi : (q : Int) < (n : Int) := by omega
      by_cases g0 : c1 ≤ m
      · have g0' : decide (c1 ≤ m) = true := by simp; omega
        have G := (show Hid (c1 ≤ m) from g0)
        clear g0
        go_wp2_with (first
          | (refine wpList_load_mid rfl _ _ rfl b (off + q * 4) rfl [.int .i64 c1, .int .i64 d1, .int .i64 k1, .slice a1 L1 cp1] _ hrng Try.underlying48 rfl (by kernel_rfl) ?_)
          | (refine wl_store rfl _ _ _ rfl wr.heap.size [.int .i64 c1, .int .i64 d1, .int .i64 k1, .slice a1 L1 cp1] rfl rfl _ _ hrow0 rfl (by kernel_rfl) hone ?_; intro w5 hr5 hg5; have hb5 : Below wr.heap.size wr w5 := (below_alloc wr _).trans (grown_below hg5 (by simp) (fun k hk => by cases hk; exact Nat.le_refl _)); have e0 := hr5.out.cell (j := 0) rfl; have e1 := hr5.out.cell (j := 1) rfl; have e2 := hr5.out.cell (j := 2) rfl; have e3 := hr5.out.cell (j := 3) rfl))
        go_ret
        refine ⟨ret_bool ?_, below_and hB le hb5⟩
        rw [HDD.out]
        refine (decide_eq_false fun h => ?_).symm
        have h2 := hI.out.1 (HDN.out.1 h)
        rw [HDR.out, HP.out] at h2
        have h3 := h2.1
        have h4 : m < c1 := h3.1
        have := G.out
        omega
      have g0' : decide (c1 ≤ m) = false := by simp; omega
      by_cases g1 : 4 < c1
      · have g1' : decide (4 < c1) = true := by simp; omega
        have G := (show Hid (4 < c1) from g1)
        clear g1
        go_wp2_with (first
          | (refine wpList_load_mid rfl _ _ rfl b (off + q * 4) rfl [.int .i64 c1, .int .i64 d1, .int .i64 k1, .slice a1 L1 cp1] _ hrng Try.underlying48 rfl (by kernel_rfl) ?_)
          | (refine wl_store rfl _ _ _ rfl wr.heap.size [.int .i64 c1, .int .i64 d1, .int .i64 k1, .slice a1 L1 cp1] rfl rfl _ _ hrow0 rfl (by kernel_rfl) hone ?_; intro w5 hr5 hg5; have hb5 : Below wr.heap.size wr w5 := (below_alloc wr _).trans (grown_below hg5 (by simp) (fun k hk => by cases hk; exact Nat.le_refl _)); have e0 := hr5.out.cell (j := 0) rfl; have e1 := hr5.out.cell (j := 1) rfl; have e2 := hr5.out.cell (j := 2) rfl; have e3 := hr5.out.cell (j := 3) rfl))
        go_ret
        refine ⟨ret_bool ?_, below_and hB le hb5⟩
        rw [HDD.out]
        refine (decide_eq_false fun h => ?_).symm
        have h2 := hI.out.1 (HDN.out.1 h)
        rw [HDR.out, HP.out] at h2
        have h3 := h2.1
        have h4 : c1 ≤ 4 := h3.2.1.2
        have := G.out
        omega
      have g1' : decide (4 < c1) = false := by simp; omega
      by_cases g2 : d1 < 1
      · have g2' : decide (d1 < 1) = true := by simp; omega
        have G := (show Hid (d1 < 1) from g2)
        clear g2
        go_wp2_with (first
          | (refine wpList_load_mid rfl _ _ rfl b (off + q * 4) rfl [.int .i64 c1, .int .i64 d1, .int .i64 k1, .slice a1 L1 cp1] _ hrng Try.underlying48 rfl (by kernel_rfl) ?_)
          | (refine wl_store rfl _ _ _ rfl wr.heap.size [.int .i64 c1, .int .i64 d1, .int .i64 k1, .slice a1 L1 cp1] rfl rfl _ _ hrow0 rfl (by kernel_rfl) hone ?_; intro w5 hr5 hg5; have hb5 : Below wr.heap.size wr w5 := (below_alloc wr _).trans (grown_below hg5 (by simp) (fun k hk => by cases hk; exact Nat.le_refl _)); have e0 := hr5.out.cell (j := 0) rfl; have e1 := hr5.out.cell (j := 1) rfl; have e2 := hr5.out.cell (j := 2) rfl; have e3 := hr5.out.cell (j := 3) rfl))
        go_ret
        refine ⟨ret_bool ?_, below_and hB le hb5⟩
        rw [HDD.out]
        refine (decide_eq_false fun h => ?_).symm
        have h2 := hI.out.1 (HDN.out.1 h)
        rw [HDR.out, HP.out] at h2
        have h3 := h2.1
        have h4 : 1 ≤ d1 := h3.2.2.1.1
        have := G.out
        omega
      have g2' : decide (d1 < 1) = false := by simp; omega
      by_cases g3 : 2147483647 < d1
      · have g3' : decide (2147483647 < d1) = true := by simp; omega
        have G := (show Hid (2147483647 < d1) from g3)
        clear g3
        go_wp2_with (first
          | (refine wpList_load_mid rfl _ _ rfl b (off + q * 4) rfl [.int .i64 c1, .int .i64 d1, .int .i64 k1, .slice a1 L1 cp1] _ hrng Try.underlying48 rfl (by kernel_rfl) ?_)
          | (refine wl_store rfl _ _ _ rfl wr.heap.size [.int .i64 c1, .int .i64 d1, .int .i64 k1, .slice a1 L1 cp1] rfl rfl _ _ hrow0 rfl (by kernel_rfl) hone ?_; intro w5 hr5 hg5; have hb5 : Below wr.heap.size wr w5 := (below_alloc wr _).trans (grown_below hg5 (by simp) (fun k hk => by cases hk; exact Nat.le_refl _)); have e0 := hr5.out.cell (j := 0) rfl; have e1 := hr5.out.cell (j := 1) rfl; have e2 := hr5.out.cell (j := 2) rfl; have e3 := hr5.out.cell (j := 3) rfl))
        go_ret
        refine ⟨ret_bool ?_, below_and hB le hb5⟩
        rw [HDD.out]
        refine (decide_eq_false fun h => ?_).symm
        have h2 := hI.out.1 (HDN.out.1 h)
        rw [HDR.out, HP.out] at h2
        have h3 := h2.1
        have h4 : d1 ≤ 2147483647 := h3.2.2.1.2
        have := G.out
        omega
      have g3' : decide (2147483647 < d1) = false := by simp; omega
      by_cases g4 : k1 < 0
      · have g4' : decide (k1 < 0) = true := by simp; omega
        have G := (show Hid (k1 < 0) from g4)
        clear g4
        go_wp2_with (first
          | (refine wpList_load_mid rfl _ _ rfl b (off + q * 4) rfl [.int .i64 c1, .int .i64 d1, .int .i64 k1, .slice a1 L1 cp1] _ hrng Try.underlying48 rfl (by kernel_rfl) ?_)
          | (refine wl_store rfl _ _ _ rfl wr.heap.size [.int .i64 c1, .int .i64 d1, .int .i64 k1, .slice a1 L1 cp1] rfl rfl _ _ hrow0 rfl (by kernel_rfl) hone ?_; intro w5 hr5 hg5; have hb5 : Below wr.heap.size wr w5 := (below_alloc wr _).trans (grown_below hg5 (by simp) (fun k hk => by cases hk; exact Nat.le_refl _)); have e0 := hr5.out.cell (j := 0) rfl; have e1 := hr5.out.cell (j := 1) rfl; have e2 := hr5.out.cell (j := 2) rfl; have e3 := hr5.out.cell (j := 3) rfl))
        go_ret
        refine ⟨ret_bool ?_, below_and hB le hb5⟩
        rw [HDD.out]
        refine (decide_eq_false fun h => ?_).symm
        have h2 := hI.out.1 (HDN.out.1 h)
        rw [HDR.out, HP.out] at h2
        have h3 := h2.1
        have h4 : 0 ≤ k1 := h3.2.2.2.1.1
        have := G.out
        omega
      have g4' : decide (k1 < 0) = false := by simp; omega
      by_cases g5 : 6 < k1
      · have g5' : decide (6 < k1) = true := by simp; omega
        have G := (show Hid (6 < k1) from g5)
        clear g5
        go_wp2_with (first
          | (refine wpList_load_mid rfl _ _ rfl b (off + q * 4) rfl [.int .i64 c1, .int .i64 d1, .int .i64 k1, .slice a1 L1 cp1] _ hrng Try.underlying48 rfl (by kernel_rfl) ?_)
          | (refine wl_store rfl _ _ _ rfl wr.heap.size [.int .i64 c1, .int .i64 d1, .int .i64 k1, .slice a1 L1 cp1] rfl rfl _ _ hrow0 rfl (by kernel_rfl) hone ?_; intro w5 hr5 hg5; have hb5 : Below wr.heap.size wr w5 := (below_alloc wr _).trans (grown_below hg5 (by simp) (fun k hk => by cases hk; exact Nat.le_refl _)); have e0 := hr5.out.cell (j := 0) rfl; have e1 := hr5.out.cell (j := 1) rfl; have e2 := hr5.out.cell (j := 2) rfl; have e3 := hr5.out.cell (j := 3) rfl))
        go_ret
        refine ⟨ret_bool ?_, below_and hB le hb5⟩
        rw [HDD.out]
        refine (decide_eq_false fun h => ?_).symm
        have h2 := hI.out.1 (HDN.out.1 h)
        rw [HDR.out, HP.out] at h2
        have h3 := h2.1
        have h4 : k1 ≤ 6 := h3.2.2.2.1.2
        have := G.out
        omega
      have g5' : decide (6 < k1) = false := by simp; omega
      by_cases g6 : 64 < L1
      · have g6' : decide ((64 : Int) < (L1 : Int)) = true := by simp; omega
        have G := (show Hid (64 < L1) from g6)
        clear g6
        go_wp2_with (first
          | (refine wpList_load_mid rfl _ _ rfl b (off + q * 4) rfl [.int .i64 c1, .int .i64 d1, .int .i64 k1, .slice a1 L1 cp1] _ hrng Try.underlying48 rfl (by kernel_rfl) ?_)
          | (refine wl_store rfl _ _ _ rfl wr.heap.size [.int .i64 c1, .int .i64 d1, .int .i64 k1, .slice a1 L1 cp1] rfl rfl _ _ hrow0 rfl (by kernel_rfl) hone ?_; intro w5 hr5 hg5; have hb5 : Below wr.heap.size wr w5 := (below_alloc wr _).trans (grown_below hg5 (by simp) (fun k hk => by cases hk; exact Nat.le_refl _)); have e0 := hr5.out.cell (j := 0) rfl; have e1 := hr5.out.cell (j := 1) rfl; have e2 := hr5.out.cell (j := 2) rfl; have e3 := hr5.out.cell (j := 3) rfl))
        go_ret
        refine ⟨ret_bool ?_, below_and hB le hb5⟩
        rw [HDD.out]
        refine (decide_eq_false fun h => ?_).symm
        have h2 := hI.out.1 (HDN.out.1 h)
        rw [HDR.out, HP.out] at h2
        have h3 := h2.1
        have h4 : l1.length ≤ 64 := h3.2.2.2.2
        rw [HL.out] at h4
        have := G.out
        omega
      have g6' : decide ((64 : Int) < (L1 : Int)) = false := by simp; omega
      go_wp2_with (first
        | (refine wpList_load_mid rfl _ _ rfl b (off + q * 4) rfl [.int .i64 c1, .int .i64 d1, .int .i64 k1, .slice a1 L1 cp1] _ hrng Try.underlying48 rfl (by kernel_rfl) ?_)
        | (refine wl_store rfl _ _ _ rfl wr.heap.size [.int .i64 c1, .int .i64 d1, .int .i64 k1, .slice a1 L1 cp1] rfl rfl _ _ hrow0 rfl (by kernel_rfl) hone ?_; intro w5 hr5 hg5; have hb5 : Below wr.heap.size wr w5 := (below_alloc wr _).trans (grown_below hg5 (by simp) (fun k hk => by cases hk; exact Nat.le_refl _)); have e0 := hr5.out.cell (j := 0) rfl; have e1 := hr5.out.cell (j := 1) rfl; have e2 := hr5.out.cell (j := 2) rfl; have e3 := hr5.out.cell (j := 3) rfl))
      go_roundw
      case rel =>
        refine ⟨q + 1, c1, by omega, by go_num, rfl, by omega, below_and hB le hb5, ?_⟩
        have h1 := hI.out
        rw [HDR.out, HP.out] at h1
        have hL := HL.out
        refine h1.trans ⟨fun h => h.2, fun h => ⟨⟨?_, ⟨?_, ?_⟩, ⟨?_, ?_⟩, ⟨?_, ?_⟩, ?_⟩, h⟩⟩
        · show m < c1; omega
        · show 1 ≤ c1; omega
        · show c1 ≤ 4; omega
        · show 1 ≤ d1; omega
        · show d1 ≤ 2147483647; omega
        · show 0 ≤ k1; omega
        · show k1 ≤ 6; omega
        · show l1.length ≤ 64; omega
      case measure => simp [intOf]; omega
    · have hqd : decide ((q : Int) < n) = false := by simp; omega
      go_wp2_with fail
      go_ret
      refine ⟨ret_bool ?_, hB⟩
      rw [HDD.out]
      refine (decide_eq_true ?_).symm
      rw [HDN.out, hI.out, List.drop_of_length_le (by have := HN.out; omega)]
      exact trivial
end Go.Proofs.Ytejkkhlblnepeaa
end
