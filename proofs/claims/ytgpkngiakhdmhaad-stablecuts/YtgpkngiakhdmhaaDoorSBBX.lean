/- catenaryref04.Same of slots (out of B4). -/
import Derived.Test.YtgpkngiakhdmhaaDoorSBBU
import Derived.BigQuiet
import Derived.Deep.QuietTactic
set_option linter.unusedSimpArgs false
set_option linter.unusedVariables false
namespace Go.Proofs.YtgpkngiakhdmhaaDoor
open Go.RowKit Oct
theorem take_snocZ {l : List Int} {k : Nat} {x : Int} (h : l[k]? = some x) : l.take (k + 1) = l.take k ++ [x] := by rw [List.take_add_one, h]; rfl
theorem take_neZ {a b : List Int} {k : Nat} {x y : Int} (ha : a[k]? = some x) (hb : b[k]? = some y) (h : ¬ x = y) : a ≠ b := fun e => by
  subst e
  rw [ha] at hb
  exact h (Option.some.inj hb)
theorem getZ_some {l : List Int} {k : Nat} {x : Int} (h : k < l.length) (e : x = l.getD k 0) : l[k]? = some x := by
  rw [e, List.getD_eq_getElem?_getD, List.getElem?_eq_getElem h]
  rfl
theorem bel_drewZ {B : Nat} {a w : World} (h : Below B a w) (n : Nat) : Below B a (w.drewN n) := h.trans ⟨rfl, rfl, rfl, Nat.le_refl _, fun _ _ => rfl⟩
theorem rlz_at {w : World} {v : Value} {l : List Int} (h : RL RInt 1 Any w v l) (hl : 0 < l.length) : ∃ b off cap, v = .slice (some ⟨b, off, none⟩) l.length cap ∧ l.length ≤ cap ∧ cap ≤ maxLen ∧ b < w.heap.size ∧ ∀ j, j < l.length → w.cell? ⟨b, off + j, none⟩ = some (.int .i64 (l.getD j 0)) := by
  obtain ⟨b, off, cap, e, h1, h2, _, h4, hat⟩ := h.at hl
  refine ⟨b, off, cap, e, h1, h2, h4, fun j hj => ?_⟩
  obtain ⟨r, _, hr, he⟩ := hat j _ (List.getElem?_eq_getElem hj)
  have he : r = [.int .i64 l[j]] := he
  subst he
  have := hr 0 _ rfl
  rw [show off + j * 1 + 0 = off + j by omega] at this
  rw [this, List.getD_eq_getElem?_getD, List.getElem?_eq_getElem hj]
  rfl
theorem rlz_len {w : World} {v : Value} {l : List Int} (h : RL RInt 1 Any w v l) : (l.length : Int) ≤ 9223372036854775807 := by
  by_cases hl : 0 < l.length
  · obtain ⟨_, _, _, _, h1, h2, _⟩ := h.at hl
    unfold maxLen at h2
    omega
  · omega
set_option maxHeartbeats 800000 in
/-- catenaryref04.Same. -/
theorem sameZ_any (w : World) (u v : Value) (la lb : List Int) (hu : RL RInt 1 Any w u la) (hv : RL RInt 1 Any w v lb) : Calls Tryd.prog 20 #[u, v] w fun e w' => e = .returned (.bool (decide (la = lb))) ∧ Below w.heap.size w w' := by
  have hll := rlz_len hu
  by_cases hlen : la.length = lb.length
  · by_cases hl : 0 < la.length
    · obtain ⟨b, off, cap, rfl, hc1, hc2, hb, hcell⟩ := rlz_at hu hl
      obtain ⟨b', off', cap', rfl, hc1', hc2', hb', hcell'⟩ := rlz_at hv (by omega)
      rw [← hlen]
      have HC := (show Hid (∀ j, j < la.length → w.cell? ⟨b, off + j, none⟩ = some (.int .i64 (la.getD j 0))) from hcell)
      have HC' := (show Hid (∀ j, j < lb.length → w.cell? ⟨b', off' + j, none⟩ = some (.int .i64 (lb.getD j 0))) from hcell')
      have HL := (show Hid (la.length = lb.length) from hlen)
      obtain ⟨d, hd⟩ : ∃ d, d = decide (la = lb) := ⟨_, rfl⟩
      rw [← hd]
      have HD := (show Hid (d = decide (la = lb)) from hd)
      clear hcell hcell' hu hv hd hc1' hlen
      have hne : ((la.length : Int) != (la.length : Int)) = false := by simp
      go_enter Tryd.func20, Tryd.ntmps20
      go_wp2_with fail
      go_loopw [13] (fun i wr => ∃ k : Nat, k ≤ la.length ∧ i = .int .i64 k ∧ Hid (la.take k = lb.take k) ∧ Below w.heap.size w wr) (fun i _ => la.length - (intOf i).toNat)
      case atStart => exact ⟨0, Nat.zero_le _, rfl, rfl, Below.refl _ _⟩
      case round =>
        obtain ⟨k, hk, rfl, htk, hbel⟩ := hrel
        by_cases hkl : k < la.length
        · obtain ⟨x, hx⟩ : ∃ x, x = la.getD k 0 := ⟨_, rfl⟩
          obtain ⟨y, hy⟩ : ∃ y, y = lb.getD k 0 := ⟨_, rfl⟩
          have hkl' : k < lb.length := by have := HL.out; omega
          have hcp : wr.cell? ⟨b, off + k, none⟩ = some (.int .i64 x) := (hbel.cell (p := ⟨b, off + k, none⟩) hb).trans (by rw [hx]; exact HC.out k hkl)
          have hcq : wr.cell? ⟨b', off' + k, none⟩ = some (.int .i64 y) := (hbel.cell (p := ⟨b', off' + k, none⟩) hb').trans (by rw [hy]; exact HC'.out k hkl')
          have HX := (show Hid (la[k]? = some x) from getZ_some hkl hx)
          have HY := (show Hid (lb[k]? = some y) from getZ_some hkl' hy)
          have i0 : (0 : Int) ≤ (k : Int) := by omega
          have i1 : (k : Int) < (la.length : Int) := by omega
          clear hx hy hkl'
          by_cases hxy : x = y
          · have HT := (show Hid (la.take (k + 1) = lb.take (k + 1)) from by
              show la.take (k + 1) = lb.take (k + 1)
              rw [take_snocZ HX.out, take_snocZ HY.out, htk.out, hxy])
            have hne2 : (x != y) = false := by simpa using hxy
            clear hxy
            go_wp2_with fail
            go_quiet (fail)
            go_wp2_with fail
            go_roundw
            case rel => exact ⟨k + 1, by omega, by go_num, HT, bel_drewZ hbel _⟩
            case measure => simp [intOf]; omega
          · have hne2 : (x != y) = true := by simpa using hxy
            have hdf : d = false := by rw [HD.out, decide_eq_false (take_neZ HX.out HY.out hxy)]
            clear HD hxy
            subst hdf
            go_wp2_with fail
            go_quiet (fail)
            go_wp2_with fail
            go_ret
            exact ⟨rfl, bel_drewZ hbel _⟩
        · have hdt : d = true := by
            have hL := HL.out
            have e := htk.out
            rw [List.take_of_length_le (by omega), List.take_of_length_le (by omega)] at e
            rw [HD.out, decide_eq_true e]
          clear HD
          subst hdt
          go_wp2_with fail
          go_ret
          exact ⟨rfl, hbel⟩
    · obtain ⟨ao, cap, rfl, hc⟩ := hu.form
      obtain ⟨ao', cap', rfl, hc'⟩ := hv.form
      have hl0 : la = [] := List.eq_nil_of_length_eq_zero (by omega)
      have hl1 : lb = [] := List.eq_nil_of_length_eq_zero (by omega)
      subst hl0 hl1
      rw [decide_eq_true rfl]
      clear hu hv hlen
      go_enter Tryd.func20, Tryd.ntmps20
      go_wp2_with fail
      refine wp_loop_rounds 1 ?_; rw [rounds_succ]
      go_wp2_with fail
      go_ret
      exact ⟨rfl, Below.refl _ _⟩
  · obtain ⟨ao, cap, rfl, hc⟩ := hu.form
    obtain ⟨ao', cap', rfl, hc'⟩ := hv.form
    rw [decide_eq_false (fun e => hlen (by rw [e]))]
    have hne : ((la.length : Int) != (lb.length : Int)) = true := by rw [bne_iff_ne]; omega
    clear hu hv hlen
    go_enter Tryd.func20, Tryd.ntmps20
    go_wp2_with fail
    go_ret
    exact ⟨rfl, Below.refl _ _⟩
end Go.Proofs.YtgpkngiakhdmhaaDoor
