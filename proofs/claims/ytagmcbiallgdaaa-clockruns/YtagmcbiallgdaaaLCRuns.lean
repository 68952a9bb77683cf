/- catenarylaw14.ClockRuns: its walk. -/
import Derived.Test.YtagmcbiallgdaaaCk4
import Derived.Deep.CutBlock
set_option linter.unusedVariables false
set_option linter.unusedSimpArgs false
namespace Go.Proofs.Ytagmcbiallgdaaa
open Go.RowKit Oct Bal Clk

/-- The two clocks, side by side. -/
structure Tck (w0 : World) (b g : Nat) (w : World) (A K : Int) : Prop where
  ck : Ck w b A K
  row : Row w g 31 [.int .i64 A, .int .i64 K]
  a0 : 0 ≤ A
  a1 : A ≤ 2147483647
  k0 : 0 ≤ K
  k1 : K ≤ 8
  bel : Below w0.heap.size w0 w

theorem Tck.dn {w0 : World} {b g : Nat} {w : World} {A K : Int} (h : Tck w0 b g w A K) (n : Nat) : Tck w0 b g (w.drewN n) A K := ⟨Row.below h.ck (bel_drewN (Below.refl _ _) n), h.row.below (bel_drewN (Below.refl _ _) n), h.a0, h.a1, h.k0, h.k1, bel_drewN h.bel n⟩
set_option maxRecDepth 10000 in
set_option maxHeartbeats 1500000 in
theorem runsC_any (w : World) (v0 : Value) (l : List Int) (h0 : Rdi w v0 l) : Calls Try.prog 5 #[v0] w fun e w' => e = .returned (.bool true) ∧ Below w.heap.size w w' := by
  have le := Nat.le_refl w.heap.size
  have hll := h0.len
  obtain ⟨ao, cap, rfl, hc⟩ := h0.form
  obtain ⟨N, hN⟩ : ∃ N, N = l.length := ⟨_, rfl⟩
  have HT := (show Hid (∀ k, k < N → ∃ b off cap', Value.slice ao N cap = .slice (some ⟨b, off, none⟩) N cap' ∧ N ≤ cap' ∧ cap' ≤ maxLen ∧ ∀ w', Below w.heap.size w w' → w'.cell? ⟨b, off + k, none⟩ = some (.int .i64 (l.getD k 0))) from fun k hk => by
    obtain ⟨b, off, cap', e, h1, h2, h3, h4⟩ := h0.at (by omega)
    rw [← hN] at e h1
    exact ⟨b, off, cap', e, h1, h2, fun w' hw => (hw.cell (p := ⟨b, off + k, none⟩) h3).trans (h4 k (by omega))⟩)
  rw [← hN] at hll ⊢
  clear hN h0 hc
  go_enter Try.func5, Try.ntmps5
  go_upto_region 5 with (first
    | (go_at_call 7; refine (clockAlive_any w).mono ?_; rintro e w1 ⟨rfl, hb1⟩)
    | (go_at_call 14; refine (newC_any w1).mono ?_; rintro e w2 ⟨rfl, hc2, hb2⟩))
  have hbw : w.heap.size ≤ w1.heap.size := hb1.size
  have hgw : w.heap.size ≤ w2.heap.size := Nat.le_trans hb1.size hb2.size
  have B2 := below_and hb1 le hb2
  have T3 : Tck w w1.heap.size w2.heap.size (w2.alloc (.cells #[.int .i64 0, .int .i64 0] 31)) 0 0 := ⟨Row.below hc2 (below_alloc _ _), Row.new w2 31 [.int .i64 0, .int .i64 0], by decide, by decide, by decide, by decide, below_and B2 le (below_alloc _ _)⟩
  clear hb1 hb2 hc2 B2
  generalize w2.alloc (.cells #[.int .i64 0, .int .i64 0] 31) = w3 at T3 ⊢
  generalize w1.heap.size = b at *
  generalize w2.heap.size = g at *
  go_wp2_with fail
  go_loopw [13] (fun i wr => ∃ (k : Nat) (A K : Int), k ≤ N ∧ i = .int .i64 k ∧ Tck w b g wr A K) (fun i _ => N - (intOf i).toNat)
  case atStart => exact ⟨0, 0, 0, by omega, rfl, T3⟩
  case round =>
    clear T3
    obtain ⟨k, A, K, hk, rfl, hT⟩ := hrel
    by_cases hkl : k < N
    · obtain ⟨tb, tof, tc, et, ht1, ht2, htx⟩ := HT.out k hkl
      injection et with et1 _ et3
      subst et1 et3
      have hki : (k : Int) < (N : Int) := by omega
      have hcu := htx wr hT.bel
      generalize l.getD k 0 = x at hcu
      have hne : b ≠ g := hT.ck.apart hT.row (by decide)
      have hck := hT.ck
      have hrow := hT.row
      have ha0 := hT.a0
      have ha1 := hT.a1
      have hk0 := hT.k0
      have hk1 := hT.k1
      have hB := hT.bel
      clear htx hT
      by_cases hx0 : x = 0
      · subst hx0
        go_upto_region 21 with (first
          | (go_at_call 15; refine (tickC_any wr b A K hck ha0).mono ?_; rintro e w6 ⟨rfl, hc6, hg6⟩; have hr6 := hrow.grown hg6 (by simpa using hne))
          | (refine wl_load rfl _ _ rfl g rfl _ _ hr6 _ Try.underlying31 rfl (by kernel_rfl) ?_)
          | (go_at_call 16; refine (refTick_any w6 A K ha0).mono ?_; rintro e w7 ⟨rfl, hb7⟩; have hr7 := hr6.below hb7; have hc7 := Row.below hc6 hb7)
          | (refine wl_store rfl _ _ _ rfl g [.int .i64 (tkC A), .int .i64 K] rfl rfl _ _ hr7 rfl (by kernel_rfl) (by simp [Value.oneCell']) ?_; intro w8 hr8 hg8))
        have hB6 := hB.trans (grown_below hg6 hB.size (fun q hq => by cases hq; exact hbw))
        have hB7 := below_and hB6 le hb7
        have hB8 := hB7.trans (grown_below hg8 hB7.size (fun q hq => by cases hq; exact hgw))
        have hc8 := Row.grown hc7 hg8 (by simpa using hne.symm)
        have hbd := tk_bd ha0 ha1
        have hr9 := hr8.out
        clear hr8 hg8 hr7 hc7 hb7 hr6 hc6 hg6 hB6 hB7
        generalize tkC A = A1 at *
        have hT9 : Tck w b g w8 A1 K := ⟨hc8, hr9, hbd.1, hbd.2, hk0, hk1, hB8⟩
        have q0 := hT9.row.cell (j := 0) rfl
        have q1 := hT9.row.cell (j := 1) rfl
        have HA := (show Hid (∀ n, Calls Try.prog 21 #[.pointer (some ⟨b, 0, none⟩)] (w8.drewN n) fun e w' => e = .returned (.int .i64 A1) ∧ w' = w8.drewN n) from fun n => ageC_any _ b A1 K (Row.below hT9.ck (bel_drewN (Below.refl _ _) n)))
        have HK := (show Hid (∀ n, Calls Try.prog 22 #[.pointer (some ⟨b, 0, none⟩)] (w8.drewN n) fun e w' => e = .returned (.int .i64 K) ∧ w' = w8.drewN n) from fun n => backC_any _ b A1 K (Row.below hT9.ck (bel_drewN (Below.refl _ _) n)))
        have HT9 := (show Hid (Tck w b g w8 A1 K) from hT9)
        clear hT9
        go_quiet ((first
          | (go_at_call 21; exact Calls.quiet_of_same (HA.out _))
          | (go_at_call 22; exact Calls.quiet_of_same (HK.out _))))
        go_wp2_with fail
        go_roundw
        case rel => exact ⟨k + 1, A1, K, by omega, by go_num, HT9.out.dn nq⟩
        case measure => simp [intOf]; omega
      by_cases hx1 : x = 1
      · subst hx1
        go_upto_region 21 with (first
          | (go_at_call 17; refine (resetC_any wr b A K hck).mono ?_; rintro e w6 ⟨rfl, hc6, hg6⟩; have hr6 := hrow.grown hg6 (by simpa using hne))
          | (refine wl_set rfl _ _ _ rfl g 0 (.int .i64 0) rfl rfl _ _ hr6 (show 0 < 2 by decide) (by kernel_rfl) rfl ?_; intro w8 hr8 hg8))
        have hB6 := hB.trans (grown_below hg6 hB.size (fun q hq => by cases hq; exact hbw))
        have hB8 := hB6.trans (grown_below hg8 hB6.size (fun q hq => by cases hq; exact hgw))
        have hc8 := Row.grown hc6 hg8 (by simpa using hne.symm)
        have hr9 := hr8.out
        clear hr8 hg8 hr6 hc6 hg6 hB6
        have hT9 : Tck w b g w8 0 K := ⟨hc8, hr9, by decide, by decide, hk0, hk1, hB8⟩
        have q0 := hT9.row.cell (j := 0) rfl
        have q1 := hT9.row.cell (j := 1) rfl
        have HA := (show Hid (∀ n, Calls Try.prog 21 #[.pointer (some ⟨b, 0, none⟩)] (w8.drewN n) fun e w' => e = .returned (.int .i64 0) ∧ w' = w8.drewN n) from fun n => ageC_any _ b 0 K (Row.below hT9.ck (bel_drewN (Below.refl _ _) n)))
        have HK := (show Hid (∀ n, Calls Try.prog 22 #[.pointer (some ⟨b, 0, none⟩)] (w8.drewN n) fun e w' => e = .returned (.int .i64 K) ∧ w' = w8.drewN n) from fun n => backC_any _ b 0 K (Row.below hT9.ck (bel_drewN (Below.refl _ _) n)))
        have HT9 := (show Hid (Tck w b g w8 0 K) from hT9)
        clear hT9
        go_quiet ((first
          | (go_at_call 21; exact Calls.quiet_of_same (HA.out _))
          | (go_at_call 22; exact Calls.quiet_of_same (HK.out _))))
        go_wp2_with fail
        go_roundw
        case rel => exact ⟨k + 1, 0, K, by omega, by go_num, HT9.out.dn nq⟩
        case measure => simp [intOf]; omega
      by_cases hx2 : x = 2
      · subst hx2
        go_upto_region 21 with (first
          | (go_at_call 18; refine (slowC_any wr b A K hck hk0).mono ?_; rintro e w6 ⟨rfl, hc6, hg6⟩; have hr6 := hrow.grown hg6 (by simpa using hne))
          | (refine wl_load rfl _ _ rfl g rfl _ _ hr6 _ Try.underlying31 rfl (by kernel_rfl) ?_)
          | (go_at_call 19; refine (refSlow_any w6 A K hk0 hk1).mono ?_; rintro e w7 ⟨rfl, hb7⟩; have hr7 := hr6.below hb7; have hc7 := Row.below hc6 hb7)
          | (refine wl_store rfl _ _ _ rfl g [.int .i64 0, .int .i64 (slC K)] rfl rfl _ _ hr7 rfl (by kernel_rfl) (by simp [Value.oneCell']) ?_; intro w8 hr8 hg8))
        have hB6 := hB.trans (grown_below hg6 hB.size (fun q hq => by cases hq; exact hbw))
        have hB7 := below_and hB6 le hb7
        have hB8 := hB7.trans (grown_below hg8 hB7.size (fun q hq => by cases hq; exact hgw))
        have hc8 := Row.grown hc7 hg8 (by simpa using hne.symm)
        have hbd := sl_bd hk0 hk1
        have hr9 := hr8.out
        clear hr8 hg8 hr7 hc7 hb7 hr6 hc6 hg6 hB6 hB7
        generalize slC K = K1 at *
        have hT9 : Tck w b g w8 0 K1 := ⟨hc8, hr9, by decide, by decide, hbd.1, hbd.2, hB8⟩
        have q0 := hT9.row.cell (j := 0) rfl
        have q1 := hT9.row.cell (j := 1) rfl
        have HA := (show Hid (∀ n, Calls Try.prog 21 #[.pointer (some ⟨b, 0, none⟩)] (w8.drewN n) fun e w' => e = .returned (.int .i64 0) ∧ w' = w8.drewN n) from fun n => ageC_any _ b 0 K1 (Row.below hT9.ck (bel_drewN (Below.refl _ _) n)))
        have HK := (show Hid (∀ n, Calls Try.prog 22 #[.pointer (some ⟨b, 0, none⟩)] (w8.drewN n) fun e w' => e = .returned (.int .i64 K1) ∧ w' = w8.drewN n) from fun n => backC_any _ b 0 K1 (Row.below hT9.ck (bel_drewN (Below.refl _ _) n)))
        have HT9 := (show Hid (Tck w b g w8 0 K1) from hT9)
        clear hT9
        go_quiet ((first
          | (go_at_call 21; exact Calls.quiet_of_same (HA.out _))
          | (go_at_call 22; exact Calls.quiet_of_same (HK.out _))))
        go_wp2_with fail
        go_roundw
        case rel => exact ⟨k + 1, 0, K1, by omega, by go_num, HT9.out.dn nq⟩
        case measure => simp [intOf]; omega
      by_cases hx3 : x = 3
      · subst hx3
        go_upto_region 21 with (first
          | (go_at_call 20; refine (doneC_any wr b A K hck).mono ?_; rintro e w6 ⟨rfl, hc6, hg6⟩; have hr6 := hrow.grown hg6 (by simpa using hne))
          | (refine wl_store rfl _ _ _ rfl g [.int .i64 0, .int .i64 0] rfl rfl _ _ hr6 rfl (by kernel_rfl) (by simp [Value.oneCell']) ?_; intro w8 hr8 hg8))
        have hB6 := hB.trans (grown_below hg6 hB.size (fun q hq => by cases hq; exact hbw))
        have hB8 := hB6.trans (grown_below hg8 hB6.size (fun q hq => by cases hq; exact hgw))
        have hc8 := Row.grown hc6 hg8 (by simpa using hne.symm)
        have hr9 := hr8.out
        clear hr8 hg8 hr6 hc6 hg6 hB6
        have hT9 : Tck w b g w8 0 0 := ⟨hc8, hr9, by decide, by decide, by decide, by decide, hB8⟩
        have q0 := hT9.row.cell (j := 0) rfl
        have q1 := hT9.row.cell (j := 1) rfl
        have HA := (show Hid (∀ n, Calls Try.prog 21 #[.pointer (some ⟨b, 0, none⟩)] (w8.drewN n) fun e w' => e = .returned (.int .i64 0) ∧ w' = w8.drewN n) from fun n => ageC_any _ b 0 0 (Row.below hT9.ck (bel_drewN (Below.refl _ _) n)))
        have HK := (show Hid (∀ n, Calls Try.prog 22 #[.pointer (some ⟨b, 0, none⟩)] (w8.drewN n) fun e w' => e = .returned (.int .i64 0) ∧ w' = w8.drewN n) from fun n => backC_any _ b 0 0 (Row.below hT9.ck (bel_drewN (Below.refl _ _) n)))
        have HT9 := (show Hid (Tck w b g w8 0 0) from hT9)
        clear hT9
        go_quiet ((first
          | (go_at_call 21; exact Calls.quiet_of_same (HA.out _))
          | (go_at_call 22; exact Calls.quiet_of_same (HK.out _))))
        go_wp2_with fail
        go_roundw
        case rel => exact ⟨k + 1, 0, 0, by omega, by go_num, HT9.out.dn nq⟩
        case measure => simp [intOf]; omega
      · go_upto_region 21 with fail
        have hT9 : Tck w b g wr A K := ⟨hck, hrow, ha0, ha1, hk0, hk1, hB⟩
        have q0 := hT9.row.cell (j := 0) rfl
        have q1 := hT9.row.cell (j := 1) rfl
        have HA := (show Hid (∀ n, Calls Try.prog 21 #[.pointer (some ⟨b, 0, none⟩)] (wr.drewN n) fun e w' => e = .returned (.int .i64 A) ∧ w' = wr.drewN n) from fun n => ageC_any _ b A K (Row.below hT9.ck (bel_drewN (Below.refl _ _) n)))
        have HK := (show Hid (∀ n, Calls Try.prog 22 #[.pointer (some ⟨b, 0, none⟩)] (wr.drewN n) fun e w' => e = .returned (.int .i64 K) ∧ w' = wr.drewN n) from fun n => backC_any _ b A K (Row.below hT9.ck (bel_drewN (Below.refl _ _) n)))
        have HT9 := (show Hid (Tck w b g wr A K) from hT9)
        clear hT9
        go_quiet ((first
          | (go_at_call 21; exact Calls.quiet_of_same (HA.out _))
          | (go_at_call 22; exact Calls.quiet_of_same (HK.out _))))
        go_wp2_with fail
        go_roundw
        case rel => exact ⟨k + 1, A, K, by omega, by go_num, HT9.out.dn nq⟩
        case measure => simp [intOf]; omega
    · have hki : ¬ (k : Int) < (N : Int) := by omega
      obtain rfl : k = N := by omega
      go_wp2_with fail
      go_ret
      exact ⟨rfl, hT.bel⟩
end Go.Proofs.Ytagmcbiallgdaaa
