/- The walks over the document's comparisons: votes. -/
import Derived.Test.YtgbfmccecnfooaaGreatDoorCRAB
import Derived.Test.YtgbfmccecnfooaaGreatDoorCRAL
import Derived.WalkSpells
import Derived.WalkLawsBesides
import Derived.KernelRfl
import Derived.Test.YtgbfmccecnfooaaGreatDoorCRAH
import Derived.Deep.QuietTactic
import Derived.BigQuiet
set_option linter.unusedSimpArgs false
set_option linter.unusedVariables false
namespace Go.Proofs.YtgbfmccecnfooaaGreatDoor
section
namespace Bb
open Go.RowKit Oct Bal
theorem right_any (w : World) (n : Int) : Calls Tryz.prog 30 #[.int .i64 n] w fun e w' => e = .returned (.bool (rgt n)) ∧ w' = w := by
  by_cases h0 : n < 4
  · rw [rgt_no (by rw [rgt_iff]; omega)]
    go_enter Tryz.func30, Tryz.ntmps30
    go_wp2_with fail
    go_ret
    exact ⟨rfl, rfl⟩
  by_cases h1 : 16 < n
  · rw [rgt_no (by rw [rgt_iff]; omega)]
    go_enter Tryz.func30, Tryz.ntmps30
    go_wp2_with fail
    go_ret
    exact ⟨rfl, rfl⟩
  · have h : n = 4 ∨ n = 5 ∨ n = 6 ∨ n = 7 ∨ n = 8 ∨ n = 9 ∨ n = 10 ∨ n = 11 ∨ n = 12 ∨ n = 13 ∨ n = 14 ∨ n = 15 ∨ n = 16 := by omega
    rcases h with rfl | rfl | rfl | rfl | rfl | rfl | rfl | rfl | rfl | rfl | rfl | rfl | rfl
    all_goals
      go_enter Tryz.func30, Tryz.ntmps30
      go_wp2_with fail
      go_ret
      exact ⟨rfl, rfl⟩
theorem right_yes (w : World) (n : Int) (h : rgt n = true) : Calls Tryz.prog 30 #[.int .i64 n] w fun e w' => e = .returned (.bool true) ∧ w' = w := h ▸ right_any w n
theorem right_not (w : World) (n : Int) (h : ¬ rgt n = true) : Calls Tryz.prog 30 #[.int .i64 n] w fun e w' => e = .returned (.bool false) ∧ w' = w := rgt_no h ▸ right_any w n
theorem faults_any (w : World) (n : Int) : Calls Tryz.prog 68 #[.int .i64 n] w fun e w' => e = .returned (.int .i64 (fau n)) ∧ w' = w := by
  by_cases h : rgt n = true
  · have hR := right_yes w n h
    have HF := (show Hid (n = 3 * fau n + 1) from fau_three h)
    have h0 := rgt_le h
    clear h
    go_enter Tryz.func68, Tryz.ntmps68
    go_wp2_with fail
    refine hR.mono ?_
    rintro e w1 ⟨rfl, rfl⟩
    clear hR
    go_wp2_with fail
    go_ret
    exact ⟨ret_int (by have := HF.out; omega), rfl⟩
  · have hR := right_not w n h
    rw [fau_no h]
    clear h
    go_enter Tryz.func68, Tryz.ntmps68
    go_wp2_with fail
    refine hR.mono ?_
    rintro e w1 ⟨rfl, rfl⟩
    clear hR
    go_wp2_with fail
    go_ret
    exact ⟨rfl, rfl⟩
theorem quorum_any (w : World) (n : Int) : Calls Tryz.prog 40 #[.int .i64 n] w fun e w' => e = .returned (.int .i64 (quo n)) ∧ w' = w := by
  by_cases h : rgt n = true
  · have hR := right_yes w n h
    have hF := faults_any w n
    have h5 := fau_five (n := n)
    rw [quo_yes h]
    clear h
    generalize fau n = f at *
    go_enter Tryz.func40, Tryz.ntmps40
    go_wp2_with fail
    refine hR.mono ?_
    rintro e w1 ⟨rfl, rfl⟩
    clear hR
    go_wp2_with fail
    refine hF.mono ?_
    rintro e w1 ⟨rfl, rfl⟩
    clear hF
    go_wp2_with fail
    go_ret
    exact ⟨ret_int (by omega), rfl⟩
  · have hR := right_not w n h
    rw [quo_no h]
    clear h
    go_enter Tryz.func40, Tryz.ntmps40
    go_wp2_with fail
    refine hR.mono ?_
    rintro e w1 ⟨rfl, rfl⟩
    clear hR
    go_wp2_with fail
    go_ret
    exact ⟨rfl, rfl⟩
end Bb
end
section
open Go.RowKit Oct
theorem bel_dn {B : Nat} {a w : World} (h : Below B a w) (n : Nat) : Below B a (w.drewN n) := h.trans ⟨rfl, rfl, rfl, Nat.le_refl _, fun _ _ => rfl⟩
set_option maxHeartbeats 2000000 in
/-- SameVotes, of the same votes. -/
theorem sameVotes_eq (w : World) (u v : Value) (ys : List PVote) (h1 : RL RVote 2 Any w u ys) (h2 : RL RVote 2 Any w v ys) :
    Calls Tryz.prog 23 #[u, v] w fun e w' => e = .returned (.bool true) ∧ Below w.heap.size w w' := by
  by_cases hl : 0 < ys.length
  · obtain ⟨b1, o1, c1, rfl, hc1, hm1, _, hb1, hx1⟩ := h1.at hl
    obtain ⟨b2, o2, c2, rfl, hc2, hm2, _, hb2, hx2⟩ := h2.at hl
    have H1 := (show Hid (∀ (i : Nat) (a : PVote), ys[i]? = some a → ∃ r, r.length = 2 ∧ w.rangeAt b1 (o1 + i * 2) r ∧ RVote Any w r a) from hx1)
    have H2 := (show Hid (∀ (i : Nat) (a : PVote), ys[i]? = some a → ∃ r, r.length = 2 ∧ w.rangeAt b2 (o2 + i * 2) r ∧ RVote Any w r a) from hx2)
    have hlm : (ys.length : Int) ≤ 9223372036854775807 := by unfold maxLen at hm1; omega
    clear hx1 hx2 h1 h2
    go_enter Tryz.func23, Tryz.ntmps23
    go_wp2_with fail
    go_loopw [13] (fun i wr => ∃ q : Nat, q ≤ ys.length ∧ i = .int .i64 q ∧ Below w.heap.size w wr) (fun i _ => ys.length - (intOf i).toNat)
    case atStart => exact ⟨0, by omega, rfl, Below.refl _ _⟩
    case round =>
      obtain ⟨q, hq, rfl, hB⟩ := hrel
      by_cases hql : q < ys.length
      · obtain ⟨a, ha⟩ : ∃ a, ys[q]? = some a := ⟨_, List.getElem?_eq_getElem hql⟩
        obtain ⟨r1, _, g1, s1, rfl, t1⟩ := H1.out q a ha
        obtain ⟨r2, _, g2, s2, rfl, t2⟩ := H2.out q a ha
        have d0 := rangeAt_block g1 (hB.block b1 hb1) 0 _ rfl
        have d1 := rangeAt_block g1 (hB.block b1 hb1) 1 _ rfl
        have d2 := rangeAt_block g2 (hB.block b2 hb2) 0 _ rfl
        have d3 := rangeAt_block g2 (hB.block b2 hb2) 1 _ rfl
        simp only [Nat.add_zero] at d0 d2
        have hS := (show Hid (∀ u, Below w.heap.size w u → Calls Tryz.prog 22 #[s1, s2] u fun e w' => e = .returned (.bool true) ∧ w' = u) from fun u hu => by
          have := same_any u s1 s2 _ _ (t1.mv (Mv.below hu)).1 (t2.mv (Mv.below hu)).1
          rw [decide_eq_true rfl] at this
          exact this)
        have hn : (a.1 != a.1) = false := by simp
        clear g1 g2 t1 t2 ha
        go_wp2_with fail
        go_quiet ((go_at_call 22; exact quiet_as (hS.out _ (bel_dn hB _)) rfl))
        go_wp2_with fail
        go_roundw
        case rel => exact ⟨q + 1, by omega, by go_num, bel_dn hB _⟩
        case measure => simp [intOf]; omega
      · go_wp2_with fail
        go_ret
        exact ⟨rfl, hB⟩
  · obtain rfl : ys = [] := List.eq_nil_of_length_eq_zero (by omega)
    obtain ⟨ao, c1, rfl, _⟩ := h1.form
    obtain ⟨bo, c2, rfl, _⟩ := h2.form
    go_enter Tryz.func23, Tryz.ntmps23
    go_wp2_with fail
    refine wp_loop_rounds 1 ?_; rw [rounds_succ]
    go_wp2_with fail
    go_ret
    exact ⟨rfl, Below.refl _ _⟩
end
end Go.Proofs.YtgbfmccecnfooaaGreatDoor
