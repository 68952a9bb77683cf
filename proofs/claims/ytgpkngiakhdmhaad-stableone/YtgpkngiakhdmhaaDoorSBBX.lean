/- ballot.Place of a list of ints (out of B3). -/
import Derived.Test.YtgpkngiakhdmhaaDoorSBBV
import Derived.Test.YtgpkngiakhdmhaaDoorSBAC
set_option linter.unusedSimpArgs false
set_option linter.unusedVariables false
namespace Go.Proofs.YtgpkngiakhdmhaaDoor
open Go.RowKit Oct Bal
theorem no_snocZ {l : List Int} {k : Nat} {x r : Int} (h : l[k]? = some x) (hn : r ∉ l.take k) (hx : ¬ x = r) : r ∉ l.take (k + 1) := by
  rw [List.take_add_one, h]
  simp only [List.mem_append, Option.toList_some, List.mem_singleton, not_or]
  exact ⟨hn, fun e => hx e.symm⟩
/-- ballot.Place. -/
theorem placeZ_any (w : World) (v : Value) (l : List Int) (r : Int) (hrd : RL RInt 1 Any w v l) : Calls Tryd.prog 17 #[v, .int .i64 r] w fun e w' => e = .returned (.int .i64 (plc l r)) ∧ w' = w := by
  have hll := rlz_len hrd
  by_cases hl : 0 < l.length
  · obtain ⟨b, off, cap, rfl, hc1, hc2, hb, hcell⟩ := rlz_at hrd hl
    have HC := (show Hid (∀ j, j < l.length → w.cell? ⟨b, off + j, none⟩ = some (.int .i64 (l.getD j 0))) from hcell)
    obtain ⟨d, hd⟩ : ∃ d, d = plc l r := ⟨_, rfl⟩
    rw [← hd]
    have HD := (show Hid (d = plc l r) from hd)
    clear hcell hrd hd
    go_enter Tryd.func17, Tryd.ntmps17
    go_wp2_with fail
    go_loop [9] (fun i => ∃ k : Nat, k ≤ l.length ∧ i = .int .i64 k ∧ Hid (r ∉ l.take k)) (fun i => l.length - (intOf i).toNat)
    case atStart => exact ⟨0, Nat.zero_le _, rfl, (by simp : r ∉ l.take 0)⟩
    case round =>
      obtain ⟨k, hk, rfl, hno⟩ := hrel
      by_cases hkl : k < l.length
      · obtain ⟨x, hx⟩ : ∃ x, x = l.getD k 0 := ⟨_, rfl⟩
        have hcx : w.cell? ⟨b, off + k, none⟩ = some (.int .i64 x) := by rw [hx]; exact HC.out _ hkl
        have HX := (show Hid (l[k]? = some x) from getZ_some hkl hx)
        have i1 : (k : Int) < (l.length : Int) := by omega
        clear hx
        by_cases hxr : x = r
        · have hdk : d = k := by rw [HD.out]; exact plc_hit (hxr ▸ HX.out) hno.out
          clear HD
          subst hdk
          go_wp2_with fail
          go_ret
          exact ⟨rfl, rfl⟩
        · have HN := (show Hid (r ∉ l.take (k + 1)) from no_snocZ HX.out hno.out hxr)
          go_wp2_with fail
          go_round
          case rel => exact ⟨k + 1, by omega, by go_num, HN⟩
          case measure => simp [intOf]; omega
      · have hdk : d = -1 := by
          rw [HD.out, plc_none]
          have := hno.out
          rwa [List.take_of_length_le (by omega)] at this
        clear HD
        subst hdk
        go_wp2_with fail
        go_ret
        exact ⟨rfl, rfl⟩
  · obtain ⟨ao, cap, rfl, hc⟩ := hrd.form
    have hl0 : l = [] := List.eq_nil_of_length_eq_zero (by omega)
    subst hl0
    clear hrd
    go_enter Tryd.func17, Tryd.ntmps17
    go_wp2_with fail
    refine wp_loop_rounds 1 ?_; rw [rounds_succ]
    go_wp2_with fail
    go_ret
    exact ⟨rfl, rfl⟩
end Go.Proofs.YtgpkngiakhdmhaaDoor
