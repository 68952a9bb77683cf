/- The walks over the document's own orders; the same numbers. -/
import Derived.Test.YtcajelodbfpkfabB3
namespace Go.Proofs.Ytcajelodbfpkfab
open Go.RowKit Oct Bal

theorem take_snoc {l : List Int} {k : Nat} {x : Int} (h : l[k]? = some x) : l.take (k + 1) = l.take k ++ [x] := by rw [List.take_add_one, h]; rfl
theorem take_ne {a b : List Int} {k : Nat} {x y : Int} (ha : a[k]? = some x) (hb : b[k]? = some y) (h : ¬ x = y) : a ≠ b := fun e => by
  subst e
  rw [ha] at hb
  exact h (Option.some.inj hb)

set_option maxHeartbeats 800000 in
/-- catenaryref04.Same. -/
theorem same_any (w : World) (u v : Value) (la lb : List Int) (hu : Rdi w u la) (hv : Rdi w v lb) : Calls Try.prog 12 #[u, v] w fun e w' => e = .returned (.bool (decide (la = lb))) ∧ Below w.heap.size w w' := by
  have hll := hu.len
  by_cases hlen : la.length = lb.length
  · by_cases hl : 0 < la.length
    · obtain ⟨b, off, cap, rfl, hc1, hc2, hb, hcell⟩ := hu.at hl
      obtain ⟨b', off', cap', rfl, hc1', hc2', hb', hcell'⟩ := hv.at (by omega)
      rw [← hlen]
      have HC := (show Hid (∀ j, j < la.length → w.cell? ⟨b, off + j, none⟩ = some (.int .i64 (la.getD j 0))) from hcell)
      have HC' := (show Hid (∀ j, j < lb.length → w.cell? ⟨b', off' + j, none⟩ = some (.int .i64 (lb.getD j 0))) from hcell')
      have HL := (show Hid (la.length = lb.length) from hlen)
      obtain ⟨d, hd⟩ : ∃ d, d = decide (la = lb) := ⟨_, rfl⟩
      rw [← hd]
      have HD := (show Hid (d = decide (la = lb)) from hd)
      clear hcell hcell' hu hv hd hc1' hlen
      have hne : ((la.length : Int) != (la.length : Int)) = false := by simp
      go_enter Try.func12, Try.ntmps12
      go_wp2_with fail
      go_loopw [13] (fun i wr => ∃ k : Nat, k ≤ la.length ∧ i = .int .i64 k ∧ Hid (la.take k = lb.take k) ∧ Below w.heap.size w wr) (fun i _ => la.length - (intOf i).toNat)
      case atStart => exact ⟨0, Nat.zero_le _, rfl, rfl, Below.refl _ _⟩
      case round =>
        obtain ⟨k, hk, rfl, htk, hbel⟩ := hrel
        by_cases hkl : k < la.length
        · obtain ⟨x, hx⟩ : ∃ x, x = la.getD k 0 := ⟨_, rfl⟩
          obtain ⟨y, hy⟩ : ∃ y, y = lb.getD k 0 := ⟨_, rfl⟩
          have hkl' : k < lb.length := by have := HL.out; omega
          have hcp : wr.cell? ⟨b, off + k, none⟩ = some (.int .i64 x) := (hbel.cell (p := ⟨b, off + k, none⟩) hb).trans (by rw [hx]; exact HC.out k hkl)
          have hcq : wr.cell? ⟨b', off' + k, none⟩ = some (.int .i64 y) := (hbel.cell (p := ⟨b', off' + k, none⟩) hb').trans (by rw [hy]; exact HC'.out k hkl')
          have HX := (show Hid (la[k]? = some x) from getD_some hkl hx)
          have HY := (show Hid (lb[k]? = some y) from getD_some hkl' hy)
          have i0 : (0 : Int) ≤ (k : Int) := by omega
          have i1 : (k : Int) < (la.length : Int) := by omega
          clear hx hy hkl'
          by_cases hxy : x = y
          · have HT := (show Hid (la.take (k + 1) = lb.take (k + 1)) from by
              show la.take (k + 1) = lb.take (k + 1)
              rw [take_snoc HX.out, take_snoc HY.out, htk.out, hxy])
            have hne2 : (x != y) = false := by simpa using hxy
            clear hxy
            go_wp2_with fail
            go_quiet (fail)
            go_wp2_with fail
            go_roundw
            case rel => exact ⟨k + 1, by omega, by go_num, HT, bel_drewN hbel _⟩
            case measure => simp [intOf]; omega
          · have hne2 : (x != y) = true := by simpa using hxy
            have hdf : d = false := by rw [HD.out, decide_eq_false (take_ne HX.out HY.out hxy)]
            clear HD hxy
            subst hdf
            go_wp2_with fail
            go_quiet (fail)
            go_wp2_with fail
            go_ret
            exact ⟨rfl, bel_drewN hbel _⟩
        · have hdt : d = true := by
            have hL := HL.out
            have e := htk.out
            rw [List.take_of_length_le (by omega), List.take_of_length_le (by omega)] at e
            rw [HD.out, decide_eq_true e]
          clear HD
          subst hdt
          go_wp2_with fail
          go_ret
          exact ⟨rfl, hbel⟩
    · obtain ⟨ao, cap, rfl, hc⟩ := hu.form
      obtain ⟨ao', cap', rfl, hc'⟩ := hv.form
      have hl0 : la = [] := List.eq_nil_of_length_eq_zero (by omega)
      have hl1 : lb = [] := List.eq_nil_of_length_eq_zero (by omega)
      subst hl0 hl1
      rw [decide_eq_true rfl]
      clear hu hv hlen
      go_enter Try.func12, Try.ntmps12
      go_wp2_with fail
      refine wp_loop_rounds 1 ?_; rw [rounds_succ]
      go_wp2_with fail
      go_ret
      exact ⟨rfl, Below.refl _ _⟩
  · obtain ⟨ao, cap, rfl, hc⟩ := hu.form
    obtain ⟨ao', cap', rfl, hc'⟩ := hv.form
    rw [decide_eq_false (fun e => hlen (by rw [e]))]
    have hne : ((la.length : Int) != (lb.length : Int)) = true := by rw [bne_iff_ne]; omega
    clear hu hv hlen
    go_enter Try.func12, Try.ntmps12
    go_wp2_with fail
    go_ret
    exact ⟨rfl, Below.refl _ _⟩

end Go.Proofs.Ytcajelodbfpkfab
