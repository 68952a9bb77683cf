/- The walks over the document's comparisons: requests, votes. -/
import Derived.Test.YtjoikkhmijalmaaM3
import Derived.Test.YtjoikkhmijalmaaF2
import Derived.Test.YtjoikkhmijalmaaD7
set_option linter.unusedVariables false
set_option linter.unusedSimpArgs false
namespace Go.Proofs.Ytjoikkhmijalmaa
open Go.RowKit Oct

theorem bel_dn {B : Nat} {a w : World} (h : Below B a w) (n : Nat) : Below B a (w.drewN n) := h.trans ⟨rfl, rfl, rfl, Nat.le_refl _, fun _ _ => rfl⟩
theorem dec_req (x y : PReq) : decide (x = y) = (x.1 == y.1 && x.2.1 == y.2.1 && decide (x.2.2.1 = y.2.2.1) && decide (x.2.2.2 = y.2.2.2)) := by
  rw [Bool.eq_iff_iff]
  simp only [decide_eq_true_eq, Bool.and_eq_true, beq_iff_eq, Prod.ext_iff, and_assoc]

set_option maxHeartbeats 2000000 in
/-- SameReq. -/
theorem sameReq_any (w : World) (r1 r2 : List Value) (x y : PReq) (h1 : RReq Any w r1 x) (h2 : RReq Any w r2 y) :
    Calls Try.prog 19 #[.agg r1.toArray, .agg r2.toArray] w fun e w' => e = .returned (.bool (decide (x = y))) ∧ Below w.heap.size w w' := by
  obtain ⟨o1, g1, rfl, ho1, hg1⟩ := h1
  obtain ⟨o2, g2, rfl, ho2, hg2⟩ := h2
  obtain ⟨w2, hw2⟩ : ∃ w2, w2 = (w.alloc (.cells #[.int .i64 x.1, .int .i64 x.2.1, o1, g1] 27)).alloc (.cells #[.int .i64 y.1, .int .i64 y.2.1, o2, g2] 27) := ⟨_, rfl⟩
  have ra : Row w2 w.heap.size 27 [.int .i64 x.1, .int .i64 x.2.1, o1, g1] := by rw [hw2]; exact row_alloc (Row.new w 27 _) _
  have rb : Row w2 (w.heap.size + 1) 27 [.int .i64 y.1, .int .i64 y.2.1, o2, g2] := by
    rw [hw2]
    have := Row.new (w.alloc (.cells #[.int .i64 x.1, .int .i64 x.2.1, o1, g1] 27)) 27 [.int .i64 y.1, .int .i64 y.2.1, o2, g2]
    simpa using this
  have hB : Below w.heap.size w w2 := by rw [hw2]; exact ((Below.refl _ w).alloc (Nat.le_refl _) _).alloc (by simp) _
  have a0 := ra.cell (j := 0) rfl; have a1 := ra.cell (j := 1) rfl; have a2 := ra.cell (j := 2) rfl; have a3 := ra.cell (j := 3) rfl
  have b0 := rb.cell (j := 0) rfl; have b1 := rb.cell (j := 1) rfl; have b2 := rb.cell (j := 2) rfl; have b3 := rb.cell (j := 3) rfl
  have sO := same_any w2 o1 o2 _ _ (ho1.mv (Mv.below hB)).1 (ho2.mv (Mv.below hB)).1
  have sG := same_any w2 g1 g2 _ _ (hg1.mv (Mv.below hB)).1 (hg2.mv (Mv.below hB)).1
  rw [dec_req]
  clear ra rb ho1 hg1 ho2 hg2
  generalize x.1 = xa at *; generalize x.2.1 = xb at *; generalize y.1 = ya at *; generalize y.2.1 = yb at *
  generalize decide (x.2.2.1 = y.2.2.1) = dO at *
  generalize decide (x.2.2.2 = y.2.2.2) = dG at *
  go_enter Try.func19, Try.ntmps19
  go_upto_region 1 with fail
  rw [← hw2]
  clear hw2
  cases ha : (xa == ya)
  · go_wp2_with fail
    go_ret
    exact ⟨by rw [ha]; rfl, hB⟩
  cases hb : (xb == yb)
  · go_wp2_with fail
    go_ret
    exact ⟨by rw [ha, hb]; rfl, hB⟩
  cases dO with
  | false =>
    go_wp2_with (go_at_call 9; refine sO.mono ?_; rintro e w3 ⟨rfl, rfl⟩)
    go_ret
    exact ⟨by rw [ha, hb]; rfl, hB⟩
  | true =>
    go_wp2_with fail
    refine sO.mono ?_
    rintro e w3 ⟨rfl, rfl⟩
    go_wp2_with fail
    refine sG.mono ?_
    rintro e w3 ⟨rfl, rfl⟩
    go_wp2_with fail
    go_ret
    exact ⟨by rw [ha, hb]; cases dG <;> rfl, hB⟩

set_option maxHeartbeats 2000000 in
/-- SameVotes, of the same votes. -/
theorem sameVotes_eq (w : World) (u v : Value) (ys : List PVote) (h1 : RL RVote 2 Any w u ys) (h2 : RL RVote 2 Any w v ys) :
    Calls Try.prog 20 #[u, v] w fun e w' => e = .returned (.bool true) ∧ Below w.heap.size w w' := by
  by_cases hl : 0 < ys.length
  · obtain ⟨b1, o1, c1, rfl, hc1, hm1, _, hb1, hx1⟩ := h1.at hl
    obtain ⟨b2, o2, c2, rfl, hc2, hm2, _, hb2, hx2⟩ := h2.at hl
    have H1 := (show Hid (∀ (i : Nat) (a : PVote), ys[i]? = some a → ∃ r, r.length = 2 ∧ w.rangeAt b1 (o1 + i * 2) r ∧ RVote Any w r a) from hx1)
    have H2 := (show Hid (∀ (i : Nat) (a : PVote), ys[i]? = some a → ∃ r, r.length = 2 ∧ w.rangeAt b2 (o2 + i * 2) r ∧ RVote Any w r a) from hx2)
    have hlm : (ys.length : Int) ≤ 9223372036854775807 := by unfold maxLen at hm1; omega
    clear hx1 hx2 h1 h2
    go_enter Try.func20, Try.ntmps20
    go_wp2_with fail
    go_loopw [13] (fun i wr => ∃ q : Nat, q ≤ ys.length ∧ i = .int .i64 q ∧ Below w.heap.size w wr) (fun i _ => ys.length - (intOf i).toNat)
    case atStart => exact ⟨0, by omega, rfl, Below.refl _ _⟩
    case round =>
      obtain ⟨q, hq, rfl, hB⟩ := hrel
      by_cases hql : q < ys.length
      · obtain ⟨a, ha⟩ : ∃ a, ys[q]? = some a := ⟨_, List.getElem?_eq_getElem hql⟩
        obtain ⟨r1, _, g1, s1, rfl, t1⟩ := H1.out q a ha
        obtain ⟨r2, _, g2, s2, rfl, t2⟩ := H2.out q a ha
        have d0 := rangeAt_block g1 (hB.block b1 hb1) 0 _ rfl
        have d1 := rangeAt_block g1 (hB.block b1 hb1) 1 _ rfl
        have d2 := rangeAt_block g2 (hB.block b2 hb2) 0 _ rfl
        have d3 := rangeAt_block g2 (hB.block b2 hb2) 1 _ rfl
        simp only [Nat.add_zero] at d0 d2
        have hS := (show Hid (∀ u, Below w.heap.size w u → Calls Try.prog 9 #[s1, s2] u fun e w' => e = .returned (.bool true) ∧ w' = u) from fun u hu => by
          have := same_any u s1 s2 _ _ (t1.mv (Mv.below hu)).1 (t2.mv (Mv.below hu)).1
          rw [decide_eq_true rfl] at this
          exact this)
        have hn : (a.1 != a.1) = false := by simp
        clear g1 g2 t1 t2 ha
        go_wp2_with fail
        go_quiet ((go_at_call 9; exact quiet_as (hS.out _ (bel_dn hB _)) rfl))
        go_wp2_with fail
        go_roundw
        case rel => exact ⟨q + 1, by omega, by go_num, bel_dn hB _⟩
        case measure => simp [intOf]; omega
      · go_wp2_with fail
        go_ret
        exact ⟨rfl, hB⟩
  · obtain rfl : ys = [] := List.eq_nil_of_length_eq_zero (by omega)
    obtain ⟨ao, c1, rfl, _⟩ := h1.form
    obtain ⟨bo, c2, rfl, _⟩ := h2.form
    go_enter Try.func20, Try.ntmps20
    go_wp2_with fail
    refine wp_loop_rounds 1 ?_; rw [rounds_succ]
    go_wp2_with fail
    go_ret
    exact ⟨rfl, Below.refl _ _⟩
end Go.Proofs.Ytjoikkhmijalmaa
