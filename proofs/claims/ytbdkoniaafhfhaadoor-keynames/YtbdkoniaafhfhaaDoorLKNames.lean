/- catenarylaw03.KeyNames: its walk. -/
import Derived.Test.YtbdkoniaafhfhaaDoorKAlive
namespace Go.Proofs.YtbdkoniaafhfhaaDoor
open Go.RowKit Oct Sha

theorem replica_in (w : World) (i : Int) (h0 : 0 ≤ i) (h1 : i ≤ 15) : Calls Tryd.prog 9 #[.int .i64 i] w fun e w' => e = .returned (.int .i64 i) ∧ w' = w := by
  have := replica_any w i
  rwa [repL, if_pos ⟨h0, h1⟩] at this
theorem client_in (w : World) (i : Int) (h0 : 1 ≤ i) (h1 : i ≤ 27) : Calls Tryd.prog 10 #[.int .i64 i] w fun e w' => e = .returned (.int .i64 (100 + i)) ∧ w' = w := by
  have := client_any w i
  rwa [cliL, if_pos ⟨h0, h1⟩] at this

set_option maxHeartbeats 1000000 in
theorem names_any (w : World) (ht : Tab w) : Calls Tryd.prog 3 #[] w fun e w' => e = .returned (.bool true) ∧ Below w.heap.size w w' := by
  go_enter Tryd.func3, Tryd.ntmps3
  go_wp2_with fail
  refine (alive_any w ht).mono ?_
  rintro e w1 ⟨rfl, hb1⟩
  go_wp2_with fail
  go_loop [1, 2] (fun i j => ∃ k : Nat, k ≤ 16 ∧ i = .int .i64 k) (fun i _ => 16 - (intOf i).toNat)
  case atStart => exact ⟨0, by omega, rfl⟩
  case round =>
    obtain ⟨k, hk, rfl⟩ := hrel
    by_cases hk16 : k < 16
    · have hi : (k : Int) ≤ 15 := by omega
      go_wp2_with fail
      go_loop [2] (fun j => ∃ m : Nat, 1 ≤ m ∧ m ≤ 28 ∧ j = .int .i64 m) (fun j => 28 - (intOf j).toNat)
      case atStart => exact ⟨1, by omega, by omega, rfl⟩
      case round =>
        obtain ⟨m, hm0, hm, rfl⟩ := hrel
        by_cases hm28 : m < 28
        · have hj : (m : Int) ≤ 27 := by omega
          have hne : ((k : Int) != (k : Int)) = false := by simp
          have hne2 : ((100 : Int) + (m : Int) != 100 + (m : Int)) = false := by simp
          go_wp2_with (first | (go_at_call 9; refine (replica_in _ (k : Int) (by omega) (by omega)).mono ?_; rintro e w' ⟨rfl, rfl⟩) | (go_at_call 10; refine (client_in _ (m : Int) (by omega) (by omega)).mono ?_; rintro e w' ⟨rfl, rfl⟩))
          go_round
          case rel => exact ⟨m + 1, by omega, by omega, by go_num⟩
          case measure => simp [intOf]; omega
        · have hj : ¬ (m : Int) ≤ 27 := by omega
          go_wp2_with fail
          go_round
          case rel => exact ⟨k + 1, by omega, by go_num⟩
          case measure => simp [intOf]; omega
    · have hi : ¬ (k : Int) ≤ 15 := by omega
      go_wp2_with fail
      go_ret
      exact ⟨rfl, hb1⟩
end Go.Proofs.YtbdkoniaafhfhaaDoor
