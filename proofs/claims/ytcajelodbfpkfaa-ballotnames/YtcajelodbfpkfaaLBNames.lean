/- catenarylaw04.BallotNames: its walk. -/
import Derived.Test.YtcajelodbfpkfaaBAlive
namespace Go.Proofs.Ytcajelodbfpkfaa
open Go.RowKit Oct Bal

set_option maxHeartbeats 1000000 in
theorem names_any (w : World) : Calls Try.prog 3 #[] w fun e w' => e = .returned (.bool true) ∧ Below w.heap.size w w' := by
  go_enter Try.func3, Try.ntmps3
  go_wp2_with fail
  refine (alive_any w).mono ?_
  rintro e w1 ⟨rfl, hb1⟩
  go_wp2_with fail
  go_loop [1] (fun i => ∃ n : Int, -20 ≤ n ∧ n ≤ 61 ∧ i = .int .i64 n) (fun i => (61 - intOf i).toNat)
  case atStart => exact ⟨-20, by omega, by omega, rfl⟩
  case round =>
    obtain ⟨n, h0, h1, rfl⟩ := hrel
    by_cases hn : n ≤ 60
    · have t1 : (rgt n != rgt n) = false := by simp
      have t2 : (fau n != fau n) = false := by simp
      have t3 : (quo n != quo n) = false := by simp
      have t4 : (wea n != wea n) = false := by simp
      go_wp2_with (first
        | (go_at_call 10; refine (right_any _ _).mono ?_; rintro e w' ⟨rfl, rfl⟩)
        | (go_at_call 11; refine (refRight_any _ _).mono ?_; rintro e w' ⟨rfl, rfl⟩)
        | (go_at_call 12; refine (faults_any _ _).mono ?_; rintro e w' ⟨rfl, rfl⟩)
        | (go_at_call 13; refine (refFaults_any _ _).mono ?_; rintro e w' ⟨rfl, rfl⟩)
        | (go_at_call 14; refine (quorum_any _ _).mono ?_; rintro e w' ⟨rfl, rfl⟩)
        | (go_at_call 15; refine (refQuorum_any _ _).mono ?_; rintro e w' ⟨rfl, rfl⟩)
        | (go_at_call 16; refine (weak_any _ _).mono ?_; rintro e w' ⟨rfl, rfl⟩)
        | (go_at_call 17; refine (refWeak_any _ _).mono ?_; rintro e w' ⟨rfl, rfl⟩))
      go_round
      case rel => exact ⟨n + 1, by omega, by omega, by first | rfl | go_num⟩
      case measure => simp [intOf]; omega
    · go_wp2_with fail
      go_ret
      exact ⟨rfl, hb1⟩
end Go.Proofs.Ytcajelodbfpkfaa
