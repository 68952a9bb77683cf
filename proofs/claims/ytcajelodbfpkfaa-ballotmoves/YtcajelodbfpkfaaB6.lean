/- The walks over first orders. -/
import Derived.Test.YtcajelodbfpkfaaB5
namespace Go.Proofs.Ytcajelodbfpkfaa
open Go.RowKit Oct Bal

theorem below_setR {B : Nat} {w wr wr' : World} {b : Nat} (h : Below B w wr) (hB : B ≤ w.heap.size) (hg : wr.grownBy wr' (some b)) (hb : B ≤ b) : Below B w wr' :=
  h.trans (grown_below hg (Nat.le_trans hB h.size) (fun k hk => by cases hk; exact hb))
theorem rdi_nil (w : World) : Rdi w (.slice none 0 0) [] := (Own.nil w 0).rdv
set_option maxHeartbeats 800000 in
/-- ballot.Start. -/
theorem start_any (w : World) (v n : Int) : Calls Try.prog 22 #[.int .i64 v, .int .i64 n] w fun e w' => ∃ s, e = .returned s ∧ Rdi w' s (ord0 v n) ∧ Below w.heap.size w w' := by
  have hH := head_any w v 0 n
  by_cases h : rgt n = true ∧ 0 ≤ v
  · have hn := rgt_le h.1
    have hb := hed_bd (v := v) h.1
    rw [hed_yes h.1 h.2] at hH
    rw [ord0_yes h.1 h.2]
    clear h
    generalize v % n = q at *
    have hq : (q == -1) = false := by simp; omega
    obtain ⟨m, rfl⟩ : ∃ m : Nat, n = (m : Int) := ⟨n.toNat, by omega⟩
    rw [Int.toNat_natCast]
    have hm16 : m ≤ 16 := by omega
    have hmk := fun u : World => run_mk m m (Nat.le_refl _) (by omega) u
    go_enter Try.func22, Try.ntmps22
    go_wp2_with fail
    refine hH.mono ?_
    rintro e w1 ⟨rfl, hb1⟩
    clear hH
    have hw1 := hb1.size
    go_wp2_with fail
    clear hmk
    obtain ⟨g, hg⟩ : ∃ g, g = w1.heap.size := ⟨_, rfl⟩
    have hr0 := row_made w1 m
    have hB0 := below_and hb1 (Nat.le_refl _) (below_alloc w1 (.cells (madeCells #[.int .i64 0] m) 3))
    rw [← hg] at hr0 hw1 ⊢
    clear hg
    generalize w1.alloc (.cells (madeCells #[.int .i64 0] m) 3) = w2 at *
    go_loopw [17] (fun i wr => ∃ k : Nat, k ≤ m ∧ i = .int .i64 k ∧ Hid (Row wr g 3 (ic (sta q m k ++ iz (m - k)))) ∧ Below w.heap.size w wr) (fun i _ => m - (intOf i).toNat)
    case atStart => exact ⟨0, Nat.zero_le _, rfl, hr0, hB0⟩
    case round =>
      obtain ⟨k, hk, rfl, hrow, hbel⟩ := hrel
      by_cases hkm : k < m
      · have i1 : (k : Int) < (m : Int) := by omega
        have hmz : ¬ ((m : Int) = 0) := by omega
        have hrm := rem_pos (v := q + (k : Int)) (n := (m : Int)) (by omega)
        have HS := (show Hid _ from sta_set q m k m hkm)
        have hlen : (ic (sta q m k ++ iz (m - k))).length = m := by rw [ic_len, List.length_append, sta_len, iz, List.length_replicate]; omega
        go_wp2_with (refine wl_set rfl 3 _ _ rfl g k (.int .i64 ((q + (k : Int)) % (m : Int))) (by first | rfl | (simp [Act.eval]; done)) (by first | rfl | (simp [Act.eval]; done)) 3 (ic (sta q m k ++ iz (m - k))) hrow.out (by rw [hlen]; exact hkm) Try.sizI rfl ?_; intro w3 hrow3 hg3)
        rw [HS.out] at hrow3
        have hB3 := below_setR hbel (Nat.le_refl _) hg3 hw1
        go_wp2_with fail
        go_roundw
        case rel => exact ⟨k + 1, by omega, by go_num, hrow3, hB3⟩
        case measure => simp [intOf]; omega
      · have i1 : ¬ (k : Int) < (m : Int) := by omega
        go_wp2_with fail
        go_ret
        have e : k = m := by omega
        have hr := hrow.out
        rw [e, Nat.sub_self, iz, List.replicate_zero, List.append_nil] at hr
        have ho := own_row hr m (by rw [ic_len, sta_len]; omega) (by rw [ic_len, sta_len]; unfold maxLen; omega)
        rw [List.take_of_length_le (by rw [ic_len, sta_len]; omega), ic_len, sta_len] at ho
        exact ⟨_, rfl, ho.rdi, hbel⟩
  · rw [ord0_no h]
    rw [hed_no h] at hH
    clear h
    go_enter Try.func22, Try.ntmps22
    go_wp2_with fail
    refine hH.mono ?_
    rintro e w1 ⟨rfl, hb1⟩
    clear hH
    go_wp2_with fail
    go_ret
    exact ⟨_, rfl, rdi_nil _, hb1⟩
def sLen : Value → Nat
  | .slice _ n _ => n
  | _ => 0
theorem step_mod {q m : Int} (k : Nat) (h0 : 0 ≤ q) (h1 : q < m) : (if (q + (k : Int)) % m + 1 = m then 0 else (q + (k : Int)) % m + 1) = (q + ((k + 1 : Nat) : Int)) % m := by
  have e : q + ((k + 1 : Nat) : Int) = (q + (k : Int)) + 1 := by omega
  have hlt := Int.emod_lt_of_pos (q + (k : Int)) (show 0 < m by omega)
  have hge := Int.emod_nonneg (q + (k : Int)) (show m ≠ 0 by omega)
  rw [e, Int.add_emod (q + (k : Int)) 1 m]
  by_cases hm : m = 1
  · subst hm; simp
  · rw [Int.emod_eq_of_lt (a := 1) (by omega) (by omega)]
    generalize (q + (k : Int)) % m = r at *
    by_cases hr : r + 1 = m
    · rw [if_pos hr, hr, Int.emod_self]
    · rw [if_neg hr, Int.emod_eq_of_lt (by omega) (by omega)]
set_option maxHeartbeats 800000 in
/-- catenaryref04.Start. -/
theorem refStart_any (w : World) (v n : Int) : Calls Try.prog 24 #[.int .i64 v, .int .i64 n] w fun e w' => ∃ s, e = .returned s ∧ Rdi w' s (ord0 v n) ∧ Below w.heap.size w w' := by
  have hH := refHead_any (w.alloc (.cells #[] 3)) v 0 n
  by_cases h : rgt n = true ∧ 0 ≤ v
  · have hn := rgt_le h.1
    have hb := hed_bd (v := v) h.1
    rw [hed_yes h.1 h.2] at hH
    rw [ord0_yes h.1 h.2]
    clear h
    generalize v % n = q at *
    obtain ⟨m, rfl⟩ : ∃ m : Nat, n = (m : Int) := ⟨n.toNat, by omega⟩
    rw [Int.toNat_natCast]
    have hm16 : m ≤ 16 := by omega
    go_enter Try.func24, Try.ntmps24
    go_wp2_with fail
    refine hH.mono ?_
    rintro e w1 ⟨rfl, hb1⟩
    clear hH
    have hB1 := below_and (below_alloc w (.cells #[] 3)) (Nat.le_refl _) hb1
    have hO1 := (own_none w 3).below hb1
    clear hb1
    go_wp2_with fail
    go_loopw [5, 6] (fun o r wr => ∃ k : Nat, k ≤ m ∧ r = .int .i64 ((q + (k : Int)) % (m : Int)) ∧ Own wr 3 o (ic (sta q m k)) ∧ Fr w.heap.size o ∧ Below w.heap.size w wr) (fun o _ _ => m - sLen o)
    case atStart => exact ⟨0, Nat.zero_le _, by rw [Int.natCast_zero, Int.add_zero, Int.emod_eq_of_lt hb.1 hb.2], hO1, fr_at _ _ _ _ (Nat.le_refl _), hB1⟩
    case round =>
      obtain ⟨k, hk, rfl, hown, hfr, hbel⟩ := hrel
      have hlt := Int.emod_lt_of_pos (q + (k : Int)) (show 0 < (m : Int) by omega)
      have hge := Int.emod_nonneg (q + (k : Int)) (show (m : Int) ≠ 0 by omega)
      have HM := (show Hid _ from step_mod k hb.1 hb.2)
      have HS := (show Hid _ from sta_succ q m k)
      have hsz := hbel.size
      obtain ⟨ao, cap, rfl, hcap⟩ := hown.form
      rw [ic_len, sta_len] at *
      generalize (q + (k : Int)) % (m : Int) = r at *
      by_cases hkm : k < m
      · have i1 : (k : Int) < (m : Int) := by omega
        by_cases hr1 : r + 1 = (m : Int)
        · have hr2 : (r + 1 == (m : Int)) = true := by simpa using hr1
          have HM2 := (show Hid (0 = (q + ((k + 1 : Nat) : Int)) % (m : Int)) from by have := HM.out; rwa [if_pos hr1] at this)
          clear hr1
          go_wp2_with (at_builtin; refine app_ints rfl _ _ rfl (.slice ao k cap) (sta q m k) rfl (World.ownsRow.alloc hown _) _ [r] rfl (rdi_one wr _ _) (by simp only [sta_len, List.length_cons, List.length_nil]; omega) ?_; intro v1 w3 happ)
          have hO := happ.own
          rw [← HS.out] at hO
          have hF := happ.fr hfr (by simp; omega)
          have hB : Below w.heap.size w w3 := (below_and hbel (Nat.le_refl _) (below_alloc _ _)).trans (happ.below hfr (by simp; omega))
          obtain ⟨ao1, cap1, rfl, hcap1⟩ := hO.form
          rw [ic_len, sta_len] at *
          clear happ
          go_wp2_with fail
          go_roundw
          case rel => exact ⟨k + 1, by omega, by rw [← HM2.out], hO, hF, hB⟩
          case measure => simp [sLen]; omega
        · have hr2 : (r + 1 == (m : Int)) = false := by simpa using hr1
          have HM2 := (show Hid (r + 1 = (q + ((k + 1 : Nat) : Int)) % (m : Int)) from by have := HM.out; rwa [if_neg hr1] at this)
          clear hr1
          go_wp2_with (at_builtin; refine app_ints rfl _ _ rfl (.slice ao k cap) (sta q m k) rfl (World.ownsRow.alloc hown _) _ [r] rfl (rdi_one wr _ _) (by simp only [sta_len, List.length_cons, List.length_nil]; omega) ?_; intro v1 w3 happ)
          have hO := happ.own
          rw [← HS.out] at hO
          have hF := happ.fr hfr (by simp; omega)
          have hB : Below w.heap.size w w3 := (below_and hbel (Nat.le_refl _) (below_alloc _ _)).trans (happ.below hfr (by simp; omega))
          obtain ⟨ao1, cap1, rfl, hcap1⟩ := hO.form
          rw [ic_len, sta_len] at *
          clear happ
          go_wp2_with fail
          go_roundw
          case rel => exact ⟨k + 1, by omega, by rw [← HM2.out], hO, hF, hB⟩
          case measure => simp [sLen]; omega
      · have i1 : ¬ (k : Int) < (m : Int) := by omega
        go_wp2_with fail
        go_ret
        obtain rfl : k = m := by omega
        exact ⟨_, rfl, hown.rdi, hbel⟩
  · rw [ord0_no h]
    rw [hed_no h] at hH
    clear h
    go_enter Try.func24, Try.ntmps24
    go_wp2_with fail
    refine hH.mono ?_
    rintro e w1 ⟨rfl, hb1⟩
    clear hH
    have hB1 := below_and (below_alloc w (.cells #[] 3)) (Nat.le_refl _) hb1
    have hO1 := (own_none w 3).below hb1
    go_wp2_with fail
    refine wp_loop_rounds 1 ?_; rw [rounds_succ]
    go_wp2_with fail
    go_ret
    exact ⟨_, rfl, hO1.rdi, hB1⟩
end Go.Proofs.Ytcajelodbfpkfaa
