/- The walks over package session: within, isClient, isStamp, rightResult, isAtEnd, isNoRequest, rightSessions. -/
import Derived.Test.YtejkkhlblnepeaaXe
import Derived.Test.YtejkkhlblnepeaaZg
set_option linter.unusedVariables false
set_option linter.unusedSimpArgs false
namespace Go.Proofs.Ytejkkhlblnepeaa
open Go.RowKit Oct Kvl

theorem withinN_any (w : World) (n a b : Int) : Calls Try.prog 36 #[.int .i64 n, .int .i64 a, .int .i64 b] w fun e w' => e = .returned (.bool (decide (a ≤ n ∧ n ≤ b))) ∧ w' = w := by
  by_cases h1 : a ≤ n
  · by_cases h2 : n ≤ b
    · rw [decide_eq_true ⟨h1, h2⟩]
      go_enter Try.func36, Try.ntmps36
      go_wp2_with fail
      go_ret
      exact ⟨rfl, rfl⟩
    · rw [decide_eq_false (fun h => h2 h.2)]
      have h2' : decide (n ≤ b) = false := by simp; omega
      go_enter Try.func36, Try.ntmps36
      go_wp2_with fail
      go_ret
      exact ⟨rfl, rfl⟩
  · rw [decide_eq_false (fun h => h1 h.1)]
    have h1' : decide (a ≤ n) = false := by simp; omega
    go_enter Try.func36, Try.ntmps36
    go_wp2_with fail
    go_ret
    exact ⟨rfl, rfl⟩
theorem isClientN_any (w : World) (n : Int) : Calls Try.prog 58 #[.int .i64 n] w fun e w' => e = .returned (.bool (decide (1 ≤ n ∧ n ≤ 4))) ∧ w' = w := by
  have hW := withinN_any w n 1 4
  generalize decide (1 ≤ n ∧ n ≤ 4) = d at hW ⊢
  go_enter Try.func58, Try.ntmps58
  go_wp2_with fail
  refine hW.mono ?_
  rintro e w1 ⟨rfl, rfl⟩
  go_wp2_with fail
  go_ret
  exact ⟨rfl, rfl⟩
theorem isStamp_any (w : World) (n : Int) : Calls Try.prog 59 #[.int .i64 n] w fun e w' => e = .returned (.bool (decide (1 ≤ n ∧ n ≤ 2147483647))) ∧ w' = w := by
  have hW := withinN_any w n 1 2147483647
  generalize decide (1 ≤ n ∧ n ≤ 2147483647) = d at hW ⊢
  go_enter Try.func59, Try.ntmps59
  go_wp2_with fail
  refine hW.mono ?_
  rintro e w1 ⟨rfl, rfl⟩
  go_wp2_with fail
  go_ret
  exact ⟨rfl, rfl⟩
set_option maxRecDepth 10000 in
theorem rightResult_any (w : World) (k : Int) (ao : Option Addr) (n cap : Nat) : Calls Try.prog 60 #[.agg #[.int .i64 k, .slice ao n cap]] w fun e w' => e = .returned (.bool (decide ((0 ≤ k ∧ k ≤ 6) ∧ n ≤ 64))) ∧ Below w.heap.size w w' := by
  have B0 := below_alloc w (.cells #[.int .i64 k, .slice ao n cap] 46)
  have c0 := (Row.new w 46 [.int .i64 k, .slice ao n cap]).cell (j := 0) rfl
  have c1 := (Row.new w 46 [.int .i64 k, .slice ao n cap]).cell (j := 1) rfl
  have hW := withinN_any (w.alloc (.cells #[.int .i64 k, .slice ao n cap] 46)) k 0 6
  by_cases hk : 0 ≤ k ∧ k ≤ 6
  · rw [decide_eq_true hk] at hW
    have HK := (show Hid (0 ≤ k ∧ k ≤ 6) from hk)
    clear hk
    by_cases hn : n ≤ 64
    · have hd : decide ((n : Int) ≤ 64) = true := by simp; omega
      have HR := (show Hid (n ≤ 64) from hn)
      clear hn
      go_enter Try.func60, Try.ntmps60
      go_wp2_with (go_at_call 36; refine hW.mono ?_; rintro e w2 ⟨rfl, rfl⟩)
      go_ret
      exact ⟨ret_bool (decide_eq_true ⟨HK.out, HR.out⟩).symm, B0⟩
    · have hd : decide ((n : Int) ≤ 64) = false := by simp; omega
      have HR := (show Hid (¬ n ≤ 64) from hn)
      clear hn
      go_enter Try.func60, Try.ntmps60
      go_wp2_with (go_at_call 36; refine hW.mono ?_; rintro e w2 ⟨rfl, rfl⟩)
      go_ret
      exact ⟨ret_bool (decide_eq_false fun h => HR.out h.2).symm, B0⟩
  · rw [decide_eq_false hk] at hW
    have HR := (show Hid (¬ (0 ≤ k ∧ k ≤ 6)) from hk)
    clear hk
    go_enter Try.func60, Try.ntmps60
    go_wp2_with (go_at_call 36; refine hW.mono ?_; rintro e w2 ⟨rfl, rfl⟩)
    go_ret
    exact ⟨ret_bool (decide_eq_false fun h => HR.out h.1).symm, B0⟩
end Go.Proofs.Ytejkkhlblnepeaa
