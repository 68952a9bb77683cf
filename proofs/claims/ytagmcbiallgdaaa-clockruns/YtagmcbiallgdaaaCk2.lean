/- The document's waits. -/
import Derived.Test.YtagmcbiallgdaaaCk1
set_option linter.unusedVariables false
set_option linter.unusedSimpArgs false
namespace Go.Proofs.Ytagmcbiallgdaaa
open Go.RowKit Oct Bal Clk

theorem refBound_any (w : World) (n m : Int) : Calls Try.prog 25 #[.int .i64 n, .int .i64 m] w fun e w' => e = .returned (.int .i64 (bnd n m)) ∧ w' = w := by
  unfold bnd
  by_cases h0 : n < 0
  · rw [if_pos h0]
    go_enter Try.func25, Try.ntmps25
    go_wp2_with fail
    go_ret
    exact ⟨rfl, rfl⟩
  · rw [if_neg h0]
    by_cases h1 : m < n
    · rw [if_pos h1]
      go_enter Try.func25, Try.ntmps25
      go_wp2_with fail
      go_ret
      exact ⟨rfl, rfl⟩
    · rw [if_neg h1]
      go_enter Try.func25, Try.ntmps25
      go_wp2_with fail
      go_ret
      exact ⟨rfl, rfl⟩

theorem refWait_any (w : World) (n : Int) : Calls Try.prog 9 #[.int .i64 n] w fun e w' => e = .returned (.int .i64 (wai n)) ∧ w' = w := by
  have hB := refBound_any w n 8
  obtain ⟨hb0, hb1⟩ := bnd_bd (n := n) (m := 8) (by decide)
  unfold wai
  generalize bnd n 8 = K at *
  obtain ⟨m, rfl⟩ := Int.eq_ofNat_of_zero_le hb0
  rw [Int.toNat_natCast]
  have hm : m ≤ 8 := by omega
  clear hb0
  go_enter Try.func9, Try.ntmps9
  go_wp2_with fail
  go_loop [3, 4] (fun a i => ∃ k : Nat, k ≤ m ∧ a = .int .i64 (wa k) ∧ i = .int .i64 k) (fun _ i => m - (intOf i).toNat)
  case atStart => exact ⟨0, Nat.zero_le _, rfl, rfl⟩
  case round =>
    obtain ⟨k, hk, rfl, rfl⟩ := hrel
    obtain ⟨hw0, hw1⟩ := wa_bd (k := k) (by omega)
    by_cases hkm : k < m
    · have hki : (k : Int) < (m : Int) := by omega
      have HS := (show Hid (wa (k + 1) = wa k * 2) from wa_succ k)
      generalize wa k = A at *
      go_wp2_with (refine hB.mono ?_; rintro e w1 ⟨rfl, rfl⟩)
      go_round
      case rel => exact ⟨k + 1, by omega, by rw [HS.out], by go_num⟩
      case measure => simp [intOf]; omega
    · have hki : ¬ (k : Int) < (m : Int) := by omega
      obtain rfl : k = m := by omega
      go_wp2_with (refine hB.mono ?_; rintro e w1 ⟨rfl, rfl⟩)
      go_ret
      exact ⟨rfl, rfl⟩

theorem refAccuse_any (w : World) (n p q : Int) : Calls Try.prog 11 #[.int .i64 n, .int .i64 p, .int .i64 q] w fun e w' => e = .returned (.int .i64 (acc n p q)) ∧ w' = w := by
  have hP := refBound_any w p 1000
  have hQ := refBound_any w q 1000
  have hW := refWait_any w n
  obtain ⟨hp0, hp1⟩ := bnd_bd (n := p) (m := 1000) (by decide)
  obtain ⟨hq0, hq1⟩ := bnd_bd (n := q) (m := 1000) (by decide)
  obtain ⟨hw0, hw1⟩ := wai_bd n
  obtain ⟨E, hE⟩ : ∃ E, E = acc n p q := ⟨_, rfl⟩
  rw [← hE]
  unfold acc at hE
  generalize bnd p 1000 = P at *
  generalize bnd q 1000 = Q at *
  generalize wai n = N at *
  have HE := (show Hid (E = N + 2 * max 0 (Q - 1 - P)) from hE)
  clear hE
  go_enter Try.func11, Try.ntmps11
  go_wp2_with fail
  refine hW.mono ?_
  rintro e w1 ⟨rfl, rfl⟩
  clear hW
  go_wp2_with fail
  refine hP.mono ?_
  rintro e w1 ⟨rfl, rfl⟩
  clear hP
  go_wp2_with fail
  go_loop [7, 8] (fun a i => ∃ k : Int, 0 ≤ k ∧ k ≤ 1000 ∧ (k = 0 ∨ P + k + 1 ≤ Q) ∧ a = .int .i64 (N + 2 * k) ∧ i = .int .i64 (P + 1 + k)) (fun _ i => (Q - intOf i).toNat)
  case atStart => exact ⟨0, by omega, by omega, .inl rfl, by go_num, by go_num⟩
  case round =>
    obtain ⟨k, hk0, hk1, hk2, rfl, rfl⟩ := hrel
    by_cases hkm : P + 1 + k < Q
    · go_wp2_with (refine hQ.mono ?_; rintro e w1 ⟨rfl, rfl⟩)
      go_round
      case rel => exact ⟨k + 1, by omega, by omega, .inr (by omega), by go_num, by go_num⟩
      case measure => simp [intOf]; omega
    · go_wp2_with (refine hQ.mono ?_; rintro e w1 ⟨rfl, rfl⟩)
      go_ret
      exact ⟨ret_int (by have := HE.out; omega), rfl⟩

theorem refChange_any (w : World) (n q : Int) : Calls Try.prog 13 #[.int .i64 n, .int .i64 q] w fun e w' => e = .returned (.int .i64 (chg n q)) ∧ w' = w := by
  have hQ := refBound_any w q 1000
  have hW := refWait_any w n
  have hq := bnd_bd (n := q) (m := 1000) (by decide)
  have hw := wai_bd n
  unfold chg
  generalize bnd q 1000 = Q at *
  generalize wai n = N at *
  obtain ⟨hq0, hq1⟩ := hq
  obtain ⟨hw0, hw1⟩ := hw
  go_enter Try.func13, Try.ntmps13
  go_wp2_with fail
  refine hW.mono ?_
  rintro e w1 ⟨rfl, rfl⟩
  clear hW
  go_wp2_with fail
  refine hQ.mono ?_
  rintro e w1 ⟨rfl, rfl⟩
  clear hQ
  go_wp2_with fail
  go_ret
  exact ⟨ret_int (by omega), rfl⟩
end Go.Proofs.Ytagmcbiallgdaaa
