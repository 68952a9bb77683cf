/- catenarylaw16.ProofChecks: its walk. -/
import Derived.Test.YtgjepofinpmcpaaGreatDoorCBW
import Derived.Test.YtgjepofinpmcpaaGreatDoorCBX
set_option linter.unusedVariables false
set_option linter.unusedSimpArgs false
namespace Go.Proofs.YtgjepofinpmcpaaGreatDoor
open Go.RowKit Oct Kvl

set_option maxRecDepth 10000 in
set_option maxHeartbeats 4000000 in
theorem prChecks_any (W : World) (bv : Value) (l : List Int) (n : Int) (hrd : Rd W bv l) (hl : l.length ≤ 140737488355328) (hT : Tab W) : Calls Tryz.prog 4 #[bv, .int .i64 n] W fun e w' => e = .returned (.bool true) ∧ Below W.heap.size W w' := by
  have hbyt := hrd.1
  obtain ⟨ao, cap, rfl, hcap⟩ := hrd.2.form
  rw [bc_len] at hrd ⊢
  have HA := proofAlive_any W hT
  go_enter Tryz.func4, Tryz.ntmps4
  go_upto_region 3 with (go_at_call 8; refine HA.mono ?_; rintro e w1 ⟨rfl, b1⟩)
  have r1 := hrd.below b1
  clear HA
  go_upto_region 4 with (at_builtin; refine app_copy rfl _ _ rfl rfl _ l rfl r1 hl ?_; intro v2 w2 o2 f2 b2)
  have B2 := below_and b1 (Nat.le_refl _) b2
  have R2 := o2.rd hbyt
  have HC := check_any w2 v2 l ⟨R2, fun _ _ _ => trivial⟩ n (hT.below B2)
  unfold CkP at HC
  clear r1 o2 f2 hbyt
  go_upto_region 5 with (go_at_call 9; refine HC.mono ?_; rintro e w3 ⟨rfl, b3⟩)
  have B3 := below_and B2 (Nat.le_refl _) b3
  have HR := refCheck_any w3 _ l ⟨hrd.below B3, fun _ _ _ => trivial⟩ n
  have HS := (show Hid (∀ u, Below w3.heap.size w3 u → Calls Tryz.prog 11 #[v2, .slice ao l.length cap] u fun e w' => e = .returned (.bool true) ∧ w' = u) from fun u hu => by
    have := same_any u v2 _ l l ((R2.below b3).below hu) (hrd.below (below_and B3 (Nat.le_refl _) hu))
    rwa [decide_eq_true rfl] at this)
  unfold CkP at HR
  generalize chkW l n = A at *
  generalize chkE l n = C at *
  clear HC R2
  go_wp2_with (first
    | (go_at_call 10; refine HR.mono ?_; rintro e w4 ⟨rfl, b4⟩)
    | (go_at_call 11; refine (HS.out w4 b4).mono ?_; rintro e w5 ⟨rfl, h5⟩; have h5 := h5.symm; subst h5))
  go_ret
  exact ⟨rfl, below_and B3 (Nat.le_refl _) b4⟩
end Go.Proofs.YtgjepofinpmcpaaGreatDoor
