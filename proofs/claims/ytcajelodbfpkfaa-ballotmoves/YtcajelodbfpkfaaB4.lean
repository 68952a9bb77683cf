/- The walks over the document's own orders; the same numbers. -/
import Derived.Test.YtcajelodbfpkfaaB3
namespace Go.Proofs.Ytcajelodbfpkfaa
open Go.RowKit Oct Bal

theorem take_snoc {l : List Int} {k : Nat} {x : Int} (h : l[k]? = some x) : l.take (k + 1) = l.take k ++ [x] := by rw [List.take_add_one, h]; rfl
theorem take_ne {a b : List Int} {k : Nat} {x y : Int} (ha : a[k]? = some x) (hb : b[k]? = some y) (h : ¬ x = y) : a ≠ b := fun e => by
  subst e
  rw [ha] at hb
  exact h (Option.some.inj hb)

set_option maxHeartbeats 800000 in
/-- catenaryref04.Same. -/
theorem same_any (w : World) (u v : Value) (la lb : List Int) (hu : Rdi w u la) (hv : Rdi w v lb) : Calls Try.prog 23 #[u, v] w fun e w' => e = .returned (.bool (decide (la = lb))) ∧ Below w.heap.size w w' := by
  have hll := hu.len
  by_cases hlen : la.length = lb.length
  · by_cases hl : 0 < la.length
    · obtain ⟨b, off, cap, rfl, hc1, hc2, hb, hcell⟩ := hu.at hl
      obtain ⟨b', off', cap', rfl, hc1', hc2', hb', hcell'⟩ := hv.at (by omega)
      rw [← hlen]
      have HC := (show Hid (∀ j, j < la.length → w.cell? ⟨b, off + j, none⟩ = some (.int .i64 (la.getD j 0))) from hcell)
      have HC' := (show Hid (∀ j, j < lb.length → w.cell? ⟨b', off' + j, none⟩ = some (.int .i64 (lb.getD j 0))) from hcell')
      have HL := (show Hid (la.length = lb.length) from hlen)
      obtain ⟨d, hd⟩ : ∃ d, d = decide (la = lb) := ⟨_, rfl⟩
      rw [← hd]
      have HD := (show Hid (d = decide (la = lb)) from hd)
      clear hcell hcell' hu hv hd hc1' hlen
      have hne : ((la.length : Int) != (la.length : Int)) = false := by simp
      go_enter Try.func23, Try.ntmps23
      go_wp2_with fail
      go_loopw [13] (fun i wr => ∃ k : Nat, k ≤ la.length ∧ i = .int .i64 k ∧ Hid (la.take k = lb.take k) ∧ Below w.heap.size w wr) (fun i _ => la.length - (intOf i).toNat)
      case atStart => exact ⟨0, Nat.zero_le _, rfl, rfl, Below.refl _ _⟩
      case round =>
        obtain ⟨k, hk, rfl, htk, hbel⟩ := hrel
        by_cases hkl : k < la.length
        · obtain ⟨x, hx⟩ : ∃ x, x = la.getD k 0 := ⟨_, rfl⟩
          obtain ⟨y, hy⟩ : ∃ y, y = lb.getD k 0 := ⟨_, rfl⟩
          have hkl' : k < lb.length := by have := HL.out; omega
          have hcp : wr.cell? ⟨b, off + k, none⟩ = some (.int .i64 x) := (hbel.cell (p := ⟨b, off + k, none⟩) hb).trans (by rw [hx]; exact HC.out k hkl)
          have hcq : wr.cell? ⟨b', off' + k, none⟩ = some (.int .i64 y) := (hbel.cell (p := ⟨b', off' + k, none⟩) hb').trans (by rw [hy]; exact HC'.out k hkl')
          have HX := (show Hid (la[k]? = some x) from getD_some hkl hx)
          have HY := (show Hid (lb[k]? = some y) from getD_some hkl' hy)
          have i0 : (0 : Int) ≤ (k : Int) := by omega
          have i1 : (k : Int) < (la.length : Int) := by omega
          clear hx hy hkl'
          by_cases hxy : x = y
          · have HT := (show Hid (la.take (k + 1) = lb.take (k + 1)) from by
              show la.take (k + 1) = lb.take (k + 1)
              rw [take_snoc HX.out, take_snoc HY.out, htk.out, hxy])
            have hne2 : (x != y) = false := by simpa using hxy
            clear hxy
            go_wp2_with fail
            go_quiet (fail)
            go_wp2_with fail
            go_roundw
            case rel => exact ⟨k + 1, by omega, by go_num, HT, bel_drewN hbel _⟩
            case measure => simp [intOf]; omega
          · have hne2 : (x != y) = true := by simpa using hxy
            have hdf : d = false := by rw [HD.out, decide_eq_false (take_ne HX.out HY.out hxy)]
            clear HD hxy
            subst hdf
            go_wp2_with fail
            go_quiet (fail)
            go_wp2_with fail
            go_ret
            exact ⟨rfl, bel_drewN hbel _⟩
        · have hdt : d = true := by
            have hL := HL.out
            have e := htk.out
            rw [List.take_of_length_le (by omega), List.take_of_length_le (by omega)] at e
            rw [HD.out, decide_eq_true e]
          clear HD
          subst hdt
          go_wp2_with fail
          go_ret
          exact ⟨rfl, hbel⟩
    · obtain ⟨ao, cap, rfl, hc⟩ := hu.form
      obtain ⟨ao', cap', rfl, hc'⟩ := hv.form
      have hl0 : la = [] := List.eq_nil_of_length_eq_zero (by omega)
      have hl1 : lb = [] := List.eq_nil_of_length_eq_zero (by omega)
      subst hl0 hl1
      rw [decide_eq_true rfl]
      clear hu hv hlen
      go_enter Try.func23, Try.ntmps23
      go_wp2_with fail
      refine wp_loop_rounds 1 ?_; rw [rounds_succ]
      go_wp2_with fail
      go_ret
      exact ⟨rfl, Below.refl _ _⟩
  · obtain ⟨ao, cap, rfl, hc⟩ := hu.form
    obtain ⟨ao', cap', rfl, hc'⟩ := hv.form
    rw [decide_eq_false (fun e => hlen (by rw [e]))]
    have hne : ((la.length : Int) != (lb.length : Int)) = true := by rw [bne_iff_ne]; omega
    clear hu hv hlen
    go_enter Try.func23, Try.ntmps23
    go_wp2_with fail
    go_ret
    exact ⟨rfl, Below.refl _ _⟩

theorem count_snoc {l : List Int} {k : Nat} {x : Int} (r : Int) (h : l[k]? = some x) : (l.take (k + 1)).count r = (l.take k).count r + (if x = r then 1 else 0) := by
  rw [take_snoc h, List.count_append, List.count_singleton]
  by_cases e : x = r <;> simp [e]
set_option maxHeartbeats 800000 in
/-- catenaryref04.Order. -/
theorem refOrder_any (w : World) (v : Value) (l : List Int) (n : Int) (hrd : Rdi w v l) : Calls Try.prog 26 #[v, .int .i64 n] w fun e w' => e = .returned (.bool (isO l n)) ∧ w' = w := by
  by_cases h : rgt n = true
  · have hR := refRight_yes w n h
    have hle := rgt_le h
    by_cases hl : (l.length : Int) = n
    · obtain ⟨b, off, cap, rfl, hc1, hc2, hb, hcell⟩ := hrd.at (by omega)
      have HC := (show Hid (∀ j, j < l.length → w.cell? ⟨b, off + j, none⟩ = some (.int .i64 (l.getD j 0))) from hcell)
      obtain ⟨d, hd⟩ : ∃ d, d = isO l n := ⟨_, rfl⟩
      rw [← hd]
      have HD := (show Hid (d = isO l n) from hd)
      have HL := (show Hid (rgt n = true ∧ (l.length : Int) = n) from ⟨h, hl⟩)
      have hl0 : ((l.length : Int) != n) = false := by simpa using hl
      have hl1 : l.length ≤ 16 := by omega
      clear hd hl hrd h hcell
      go_enter Try.func26, Try.ntmps26
      go_wp2_with (go_at_call 11; refine hR.mono ?_; rintro e w ⟨rfl, rfl⟩)
      clear hR
      go_loop [5, 6, 8, 25] (fun i _ _ _ => ∃ k : Nat, (k : Int) ≤ n ∧ i = .int .i64 k ∧ Hid (∀ r : Int, 0 ≤ r → r < k → r ∈ l)) (fun i _ _ _ => n.toNat - (intOf i).toNat)
      case atStart => exact ⟨0, by omega, rfl, fun r h0 h1 => by omega⟩
      case round =>
        obtain ⟨k, hk, rfl, hall⟩ := hrel
        by_cases hkn : (k : Int) < n
        · go_wp2_with fail
          go_loop [6, 8, 25] (fun c _ i => ∃ m : Nat, m ≤ l.length ∧ i = .int .i64 m ∧ ∃ c0 : Nat, c0 ≤ m ∧ c = .int .i64 c0 ∧ Hid (c0 = (l.take m).count (k : Int))) (fun _ _ i => l.length - (intOf i).toNat)
          case atStart => exact ⟨0, Nat.zero_le _, rfl, 0, Nat.le_refl _, rfl, (by simp : 0 = (l.take 0).count (k : Int))⟩
          case round =>
            obtain ⟨m, hm, rfl, c0, hc0, rfl, hcnt⟩ := hrel
            by_cases hml : m < l.length
            · obtain ⟨x, hx⟩ : ∃ x, x = l.getD m 0 := ⟨_, rfl⟩
              have hcx : w.cell? ⟨b, off + m, none⟩ = some (.int .i64 x) := by rw [hx]; exact HC.out _ hml
              have HX := (show Hid (l[m]? = some x) from getD_some hml hx)
              have i1 : (m : Int) < (l.length : Int) := by omega
              clear hx
              by_cases hxk : x = (k : Int)
              · have HN := (show Hid (c0 + 1 = (l.take (m + 1)).count (k : Int)) from by
                  show c0 + 1 = (l.take (m + 1)).count (k : Int)
                  rw [count_snoc _ HX.out, if_pos hxk, ← hcnt.out])
                go_wp2_with fail
                go_round
                case rel => exact ⟨m + 1, by omega, by go_num, c0 + 1, by omega, by go_num, HN⟩
                case measure => simp [intOf]; omega
              · have HN := (show Hid (c0 = (l.take (m + 1)).count (k : Int)) from by
                  show c0 = (l.take (m + 1)).count (k : Int)
                  rw [count_snoc _ HX.out, if_neg hxk, ← hcnt.out]; rfl)
                go_wp2_with fail
                go_round
                case rel => exact ⟨m + 1, by omega, by go_num, c0, by omega, rfl, HN⟩
                case measure => simp [intOf]; omega
            · have i1 : ¬ (m : Int) < (l.length : Int) := by omega
              have HN := (show Hid (c0 = l.count (k : Int)) from by
                have := hcnt.out
                rwa [List.take_of_length_le (by omega)] at this)
              clear hcnt
              by_cases hc1 : (c0 : Int) = 1
              · have hne : ((c0 : Int) != 1) = false := by simpa using hc1
                have HA := (show Hid (∀ r : Int, 0 ≤ r → r < ((k + 1 : Nat) : Int) → r ∈ l) from fun r h0 h1 => by
                  by_cases e : r = k
                  · rw [e]; exact List.count_pos_iff.1 (by have := HN.out; omega)
                  · exact hall.out r h0 (by omega))
                clear hc1
                go_wp2_with fail
                go_round
                case rel => exact ⟨k + 1, by omega, by go_num, HA⟩
                case measure => simp [intOf]; omega
              · have hne : ((c0 : Int) != 1) = true := by simpa using hc1
                have hdf : d = false := by
                  rw [HD.out, ← Bool.not_eq_true]
                  intro ho
                  have := isO_count ho (r := (k : Int)) (by omega) hkn
                  have := HN.out
                  omega
                clear HD hc1
                subst hdf
                go_wp2_with fail
                go_ret
                exact ⟨rfl, rfl⟩
        · have hdt : d = true := by
            rw [HD.out, isO_iff]
            exact ⟨HL.out.1, HL.out.2, fun r hr => by
              have := mem_rng.1 hr
              exact hall.out r this.1 (by omega)⟩
          clear HD
          subst hdt
          go_wp2_with fail
          go_ret
          exact ⟨rfl, rfl⟩
    · obtain ⟨ao, cap, rfl, hc⟩ := hrd.form
      have hf : isO l n = false := by rw [← Bool.not_eq_true, isO_iff]; exact fun e => hl e.2.1
      have hl0 : ((l.length : Int) != n) = true := by simpa using hl
      rw [hf]
      clear hf hl hrd h
      go_enter Try.func26, Try.ntmps26
      go_wp2_with (go_at_call 11; refine hR.mono ?_; rintro e w ⟨rfl, rfl⟩)
      go_ret
      exact ⟨rfl, rfl⟩
  · obtain ⟨ao, cap, rfl, hc⟩ := hrd.form
    have hR := refRight_not w n h
    have hf : isO l n = false := by rw [← Bool.not_eq_true, isO_iff]; exact fun e => h e.1
    rw [hf]
    clear hf hrd h
    go_enter Try.func26, Try.ntmps26
    go_wp2_with (go_at_call 11; refine hR.mono ?_; rintro e w ⟨rfl, rfl⟩)
    go_ret
    exact ⟨rfl, rfl⟩
end Go.Proofs.Ytcajelodbfpkfaa
