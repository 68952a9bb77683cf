/- The document's comparisons and searches: entries, results, operations. -/
import Derived.Test.YtejkkhlblnepeabKo
import Derived.Deep.QuietTactic
import Derived.BigQuiet
import Derived.Sort.AtCall
set_option linter.unusedVariables false
set_option linter.unusedSimpArgs false
namespace Go.Proofs.Ytejkkhlblnepeab
open Go.RowKit Oct Kvl

theorem bel_dnE {B : Nat} {a w : World} (h : Below B a w) (n : Nat) : Below B a (w.drewN n) := h.trans ⟨rfl, rfl, rfl, Nat.le_refl _, fun _ _ => rfl⟩

set_option maxHeartbeats 2000000 in
/-- The document's Same, of the same entries. -/
theorem sameE_eq (w : World) (u v : Value) (ys : List PEnt) (h1 : RL REnt 2 Any w u ys) (h2 : RL REnt 2 Any w v ys) :
    Calls Try.prog 21 #[u, v] w fun e w' => e = .returned (.bool true) ∧ Below w.heap.size w w' := by
  by_cases hl : 0 < ys.length
  · obtain ⟨b1, o1, c1, rfl, hc1, hm1, _, hb1, hx1⟩ := h1.at hl
    obtain ⟨b2, o2, c2, rfl, hc2, hm2, _, hb2, hx2⟩ := h2.at hl
    have H1 := (show Hid (∀ (i : Nat) (a : PEnt), ys[i]? = some a → ∃ r, r.length = 2 ∧ w.rangeAt b1 (o1 + i * 2) r ∧ REnt Any w r a) from hx1)
    have H2 := (show Hid (∀ (i : Nat) (a : PEnt), ys[i]? = some a → ∃ r, r.length = 2 ∧ w.rangeAt b2 (o2 + i * 2) r ∧ REnt Any w r a) from hx2)
    have hlm : (ys.length : Int) ≤ 9223372036854775807 := by unfold maxLen at hm1; omega
    clear hx1 hx2 h1 h2
    go_enter Try.func21, Try.ntmps21
    go_wp2_with fail
    go_loopw [13] (fun i wr => ∃ q : Nat, q ≤ ys.length ∧ i = .int .i64 q ∧ Below w.heap.size w wr) (fun i _ => ys.length - (intOf i).toNat)
    case atStart => exact ⟨0, by omega, rfl, Below.refl _ _⟩
    case round =>
      obtain ⟨q, hq, rfl, hB⟩ := hrel
      by_cases hql : q < ys.length
      · obtain ⟨a, ha⟩ : ∃ a, ys[q]? = some a := ⟨_, List.getElem?_eq_getElem hql⟩
        obtain ⟨r1, _, g1, s1, s2, rfl, t1, t2⟩ := H1.out q a ha
        obtain ⟨r2, _, g2, s3, s4, rfl, t3, t4⟩ := H2.out q a ha
        have d0 := rangeAt_block g1 (hB.block b1 hb1) 0 _ rfl
        have d1 := rangeAt_block g1 (hB.block b1 hb1) 1 _ rfl
        have d2 := rangeAt_block g2 (hB.block b2 hb2) 0 _ rfl
        have d3 := rangeAt_block g2 (hB.block b2 hb2) 1 _ rfl
        simp only [Nat.add_zero] at d0 d2
        have hS := (show Hid (∀ u, Below w.heap.size w u → Calls Try.prog 8 #[s1, s3] u fun e w' => e = .returned (.bool true) ∧ w' = u) from fun u hu => by
          have := same_any u s1 s3 _ _ (t1.mv (Mv.below hu)).1 (t3.mv (Mv.below hu)).1
          rw [decide_eq_true rfl] at this
          exact this)
        have hS' := (show Hid (∀ u, Below w.heap.size w u → Calls Try.prog 8 #[s2, s4] u fun e w' => e = .returned (.bool true) ∧ w' = u) from fun u hu => by
          have := same_any u s2 s4 _ _ (t2.mv (Mv.below hu)).1 (t4.mv (Mv.below hu)).1
          rw [decide_eq_true rfl] at this
          exact this)
        clear g1 g2 t1 t2 t3 t4 ha
        go_wp2_with fail
        go_quiet (first | (go_at_call_has 8 s1; exact quiet_as (hS.out _ (bel_dnE hB _)) rfl) | (go_at_call_has 8 s2; exact quiet_as (hS'.out _ (bel_dnE hB _)) rfl))
        go_wp2_with fail
        go_roundw
        case rel => exact ⟨q + 1, by omega, by go_num, bel_dnE hB _⟩
        case measure => simp [intOf]; omega
      · go_wp2_with fail
        go_ret
        exact ⟨rfl, hB⟩
  · obtain rfl : ys = [] := List.eq_nil_of_length_eq_zero (by omega)
    obtain ⟨ao, c1, rfl, _⟩ := h1.form
    obtain ⟨bo, c2, rfl, _⟩ := h2.form
    go_enter Try.func21, Try.ntmps21
    go_wp2_with fail
    refine wp_loop_rounds 1 ?_; rw [rounds_succ]
    go_wp2_with fail
    go_ret
    exact ⟨rfl, Below.refl _ _⟩

set_option maxHeartbeats 1000000 in
/-- SameResult, of the same results. -/
theorem sameR_eq (w : World) (c : Int) (u v : Value) (l : List Int) (h1 : Rd w u l) (h2 : Rd w v l) :
    Calls Try.prog 23 #[.agg #[.int .i64 c, u], .agg #[.int .i64 c, v]] w fun e w' => e = .returned (.bool true) ∧ Below w.heap.size w w' := by
  obtain ⟨w2, hw2⟩ : ∃ w2, w2 = (w.alloc (.cells #[.int .i64 c, u] 47)).alloc (.cells #[.int .i64 c, v] 47) := ⟨_, rfl⟩
  have ra : Row w2 w.heap.size 47 [.int .i64 c, u] := by rw [hw2]; exact rowA (Row.new w 47 _) _
  have rb : Row w2 (w.heap.size + 1) 47 [.int .i64 c, v] := by
    rw [hw2]
    have := Row.new (w.alloc (.cells #[.int .i64 c, u] 47)) 47 [.int .i64 c, v]
    simpa using this
  have hB : Below w.heap.size w w2 := by rw [hw2]; exact ((Below.refl _ w).alloc (Nat.le_refl _) _).alloc (by simp) _
  have a0 := ra.cell (j := 0) rfl; have a1 := ra.cell (j := 1) rfl
  have b0 := rb.cell (j := 0) rfl; have b1 := rb.cell (j := 1) rfl
  have sO := same_any w2 u v _ _ (h1.below hB) (h2.below hB)
  rw [decide_eq_true rfl] at sO
  have hc : (c == c) = true := by simp
  go_enter Try.func23, Try.ntmps23
  go_upto_region 1 with fail
  rw [← hw2]
  clear hw2
  go_wp2_with (go_at_call 8; refine sO.mono ?_; rintro e w3 ⟨rfl, rfl⟩)
  go_ret
  exact ⟨rfl, hB⟩
end Go.Proofs.Ytejkkhlblnepeab
