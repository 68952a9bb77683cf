/- The walks over package window: same, mayFollow; the document's fits. Written by mk18w.py. -/
import Derived.Test.YtagoeccgmkjhoaaBc
import Derived.Test.YtagoeccgmkjhoaaK0
import Derived.Test.YtagoeccgmkjhoaaS1
import Derived.Test.YtagoeccgmkjhoaaWn2
set_option linter.unusedVariables false
set_option linter.unusedSimpArgs false
namespace Go.Proofs.Ytagoeccgmkjhoaa
open Go.RowKit Oct Kvl Bal

set_option maxHeartbeats 2000000 in
/-- window.same. -/
theorem sameW_any (w : World) (r1 r2 : List Value) (x y : PReq) (h1 : RReq Any w r1 x) (h2 : RReq Any w r2 y) :
    Calls Try.prog 47 #[.agg r1.toArray, .agg r2.toArray] w fun e w' => e = .returned (.bool (decide (x = y))) ∧ Below w.heap.size w w' := by
  obtain ⟨o1, g1, rfl, ho1, hg1⟩ := h1
  obtain ⟨o2, g2, rfl, ho2, hg2⟩ := h2
  obtain ⟨w2, hw2⟩ : ∃ w2, w2 = (w.alloc (.cells #[.int .i64 x.1, .int .i64 x.2.1, o1, g1] 30)).alloc (.cells #[.int .i64 y.1, .int .i64 y.2.1, o2, g2] 30) := ⟨_, rfl⟩
  have ra : Row w2 w.heap.size 30 [.int .i64 x.1, .int .i64 x.2.1, o1, g1] := by rw [hw2]; exact row_alloc (Row.new w 30 _) _
  have rb : Row w2 (w.heap.size + 1) 30 [.int .i64 y.1, .int .i64 y.2.1, o2, g2] := by
    rw [hw2]
    have := Row.new (w.alloc (.cells #[.int .i64 x.1, .int .i64 x.2.1, o1, g1] 30)) 30 [.int .i64 y.1, .int .i64 y.2.1, o2, g2]
    simpa using this
  have hB : Below w.heap.size w w2 := by rw [hw2]; exact ((Below.refl _ w).alloc (Nat.le_refl _) _).alloc (by simp) _
  have a0 := ra.cell (j := 0) rfl; have a1 := ra.cell (j := 1) rfl; have a2 := ra.cell (j := 2) rfl; have a3 := ra.cell (j := 3) rfl
  have b0 := rb.cell (j := 0) rfl; have b1 := rb.cell (j := 1) rfl; have b2 := rb.cell (j := 2) rfl; have b3 := rb.cell (j := 3) rfl
  have sO := equalB_any w2 o1 o2 _ _ (ho1.mv (Mv.below hB)).1 (ho2.mv (Mv.below hB)).1
  have sG := equalB_any w2 g1 g2 _ _ (hg1.mv (Mv.below hB)).1 (hg2.mv (Mv.below hB)).1
  rw [dec_req]
  clear ra rb ho1 hg1 ho2 hg2
  generalize x.1 = xa at *; generalize x.2.1 = xb at *; generalize y.1 = ya at *; generalize y.2.1 = yb at *
  generalize decide (x.2.2.1 = y.2.2.1) = dO at *
  generalize decide (x.2.2.2 = y.2.2.2) = dG at *
  go_enter Try.func47, Try.ntmps47
  go_upto_region 1 with fail
  rw [← hw2]
  clear hw2
  cases ha : (xa == ya)
  · go_wp2_with fail
    go_ret
    exact ⟨by rw [ha]; rfl, hB⟩
  cases hb : (xb == yb)
  · go_wp2_with fail
    go_ret
    exact ⟨by rw [ha, hb]; rfl, hB⟩
  cases dO with
  | false =>
    go_wp2_with (go_at_call 56; refine sO.mono ?_; rintro e w3 ⟨rfl, rfl⟩)
    go_ret
    exact ⟨by rw [ha, hb]; rfl, hB⟩
  | true =>
    go_wp2_with fail
    refine sO.mono ?_
    rintro e w3 ⟨rfl, rfl⟩
    go_wp2_with fail
    refine sG.mono ?_
    rintro e w3 ⟨rfl, rfl⟩
    go_wp2_with fail
    go_ret
    exact ⟨by rw [ha, hb]; cases dG <;> rfl, hB⟩

set_option maxRecDepth 10000 in
set_option maxHeartbeats 2000000 in
/-- window.mayFollow. -/
theorem follow_any (w : World) (was b : PBal) (ro rr : List Value) (old r : PReq) (ho : RReq Any w ro old) (hr : RReq Any w rr r) :
    Calls Try.prog 42 #[bal was.1 was.2, .agg ro.toArray, bal b.1 b.2, .agg rr.toArray] w fun e w' => e = .returned (.bool (fitL was b old r)) ∧ Below w.heap.size w w' := by
  obtain ⟨o1, g1, rfl, ho1, hg1⟩ := ho
  obtain ⟨o2, g2, rfl, ho2, hg2⟩ := hr
  obtain ⟨w1, hw1⟩ : ∃ w1, w1 = w.alloc (.cells #[.int .i64 was.1, .int .i64 was.2] 27) := ⟨_, rfl⟩
  have e1 : w1.heap.size = w.heap.size + 1 := by rw [hw1]; simp
  have B1 : Below w.heap.size w w1 := by rw [hw1]; exact below_alloc _ _
  have R1 : Row w1 (w.heap.size + 0) 27 [.int .i64 was.1, .int .i64 was.2] := by rw [hw1]; exact Row.new _ _ _
  obtain ⟨w2, hw2⟩ : ∃ w2, w2 = w1.alloc (.cells #[.int .i64 old.1, .int .i64 old.2.1, o1, g1] 30) := ⟨_, rfl⟩
  have e2 : w2.heap.size = w.heap.size + 2 := by rw [hw2]; simp [e1]
  have B2 : Below w1.heap.size w1 w2 := by rw [hw2]; exact below_alloc _ _
  have R2 : Row w2 (w.heap.size + 1) 30 [.int .i64 old.1, .int .i64 old.2.1, o1, g1] := by rw [hw2, ← e1]; exact Row.new _ _ _
  obtain ⟨w3, hw3⟩ : ∃ w3, w3 = w2.alloc (.cells #[.int .i64 b.1, .int .i64 b.2] 27) := ⟨_, rfl⟩
  have e3 : w3.heap.size = w.heap.size + 3 := by rw [hw3]; simp [e2]
  have B3 : Below w2.heap.size w2 w3 := by rw [hw3]; exact below_alloc _ _
  have R3 : Row w3 (w.heap.size + 2) 27 [.int .i64 b.1, .int .i64 b.2] := by rw [hw3, ← e2]; exact Row.new _ _ _
  obtain ⟨w4, hw4⟩ : ∃ w4, w4 = w3.alloc (.cells #[.int .i64 r.1, .int .i64 r.2.1, o2, g2] 30) := ⟨_, rfl⟩
  have e4 : w4.heap.size = w.heap.size + 4 := by rw [hw4]; simp [e3]
  have B4 : Below w3.heap.size w3 w4 := by rw [hw4]; exact below_alloc _ _
  have R4 : Row w4 (w.heap.size + 3) 30 [.int .i64 r.1, .int .i64 r.2.1, o2, g2] := by rw [hw4, ← e3]; exact Row.new _ _ _
  have R1 := ((R1.below B2).below B3).below B4
  have R2 := (R2.below B3).below B4
  have R3 := R3.below B4
  have B : Below w.heap.size w w4 := below_and (below_and (below_and B1 (Nat.le_refl _) B2) (Nat.le_refl _) B3) (Nat.le_refl _) B4
  have hw : w4 = ((((w.alloc (.cells #[.int .i64 was.1, .int .i64 was.2] 27)).alloc (.cells #[.int .i64 old.1, .int .i64 old.2.1, o1, g1] 30)).alloc (.cells #[.int .i64 b.1, .int .i64 b.2] 27)).alloc (.cells #[.int .i64 r.1, .int .i64 r.2.1, o2, g2] 30)) := by rw [hw4, hw3, hw2, hw1]
  clear hw1 hw2 hw3 hw4 e1 e2 e3 e4 B1 B2 B3 B4
  have hC := compareB_any w4 was.1 was.2 b.1 b.2
  have hF : fitL was b old r = (decide (cmp2 was.1 was.2 b.1 b.2 < 0) || (decide (cmp2 was.1 was.2 b.1 b.2 = 0) && decide (old = r))) := rfl
  rw [hF]
  clear hF
  generalize cmp2 was.1 was.2 b.1 b.2 = c at *
  generalize hdd : decide (old = r) = dd
  go_enter Try.func42, Try.ntmps42
  go_upto_region 1 with fail
  rw [← hw]
  clear hw
  go_upto_region 2 with (first
    | (refine wl_load rfl _ _ rfl w.heap.size rfl _ _ R1 _ Try.underlying27 rfl (by kernel_rfl) ?_)
    | (refine wl_load rfl _ _ rfl (w.heap.size + 2) rfl _ _ R3 _ Try.underlying27 rfl (by kernel_rfl) ?_)
    | (go_at_call 22; refine hC.mono ?_; rintro e w5 ⟨rfl, b5⟩))
  have BB := below_and B (Nat.le_refl _) b5
  have RO := R2.below b5
  have RR := R4.below b5
  have hS := sameW_any w5 [.int .i64 old.1, .int .i64 old.2.1, o1, g1] [.int .i64 r.1, .int .i64 r.2.1, o2, g2] old r ⟨_, _, rfl, ho1.mv (Mv.below BB), hg1.mv (Mv.below BB)⟩ ⟨_, _, rfl, ho2.mv (Mv.below BB), hg2.mv (Mv.below BB)⟩
  rw [hdd] at hS
  clear hC R1 R2 R3 R4 ho1 hg1 ho2 hg2 hdd
  by_cases h1 : c < 0
  · have d1 : decide (c < 0) = true := by simpa using h1
    go_wp2_with fail
    go_ret
    exact ⟨by simp [d1], BB⟩
  · have d1 : decide (c < 0) = false := by simpa using h1
    by_cases h2 : c = 0
    · subst h2
      go_wp2_with (first
        | (refine wl_load_w (by rfl) _ _ rfl (w.heap.size + 1) rfl _ _ RO _ Try.underlying30 rfl (by kernel_rfl) ?_)
        | (refine wl_load_w (by rfl) _ _ rfl (w.heap.size + 3) rfl _ _ RR _ Try.underlying30 rfl (by kernel_rfl) ?_))
      refine hS.mono ?_
      rintro e w6 ⟨rfl, b6⟩
      go_wp2_with fail
      go_ret
      exact ⟨by simp, below_and BB (Nat.le_refl _) b6⟩
    · have d2 : (c == 0) = false := by simpa using h2
      have d3 : decide (c = 0) = false := by simpa using h2
      go_wp2_with fail
      go_ret
      exact ⟨by simp [d1, d3], BB⟩

set_option maxRecDepth 10000 in
set_option maxHeartbeats 2000000 in
/-- The document's fits. -/
theorem refFits_any (w : World) (was b : PBal) (ro rr : List Value) (old r : PReq) (ho : RReq Any w ro old) (hr : RReq Any w rr r) :
    Calls Try.prog 44 #[bal was.1 was.2, bal b.1 b.2, .agg ro.toArray, .agg rr.toArray] w fun e w' => e = .returned (.bool (fitL was b old r)) ∧ Below w.heap.size w w' := by
  obtain ⟨o1, g1, rfl, ho1, hg1⟩ := ho
  obtain ⟨o2, g2, rfl, ho2, hg2⟩ := hr
  obtain ⟨w1, hw1⟩ : ∃ w1, w1 = w.alloc (.cells #[.int .i64 was.1, .int .i64 was.2] 27) := ⟨_, rfl⟩
  have e1 : w1.heap.size = w.heap.size + 1 := by rw [hw1]; simp
  have B1 : Below w.heap.size w w1 := by rw [hw1]; exact below_alloc _ _
  have R1 : Row w1 (w.heap.size + 0) 27 [.int .i64 was.1, .int .i64 was.2] := by rw [hw1]; exact Row.new _ _ _
  obtain ⟨w2, hw2⟩ : ∃ w2, w2 = w1.alloc (.cells #[.int .i64 b.1, .int .i64 b.2] 27) := ⟨_, rfl⟩
  have e2 : w2.heap.size = w.heap.size + 2 := by rw [hw2]; simp [e1]
  have B2 : Below w1.heap.size w1 w2 := by rw [hw2]; exact below_alloc _ _
  have R2 : Row w2 (w.heap.size + 1) 27 [.int .i64 b.1, .int .i64 b.2] := by rw [hw2, ← e1]; exact Row.new _ _ _
  obtain ⟨w3, hw3⟩ : ∃ w3, w3 = w2.alloc (.cells #[.int .i64 old.1, .int .i64 old.2.1, o1, g1] 30) := ⟨_, rfl⟩
  have e3 : w3.heap.size = w.heap.size + 3 := by rw [hw3]; simp [e2]
  have B3 : Below w2.heap.size w2 w3 := by rw [hw3]; exact below_alloc _ _
  have R3 : Row w3 (w.heap.size + 2) 30 [.int .i64 old.1, .int .i64 old.2.1, o1, g1] := by rw [hw3, ← e2]; exact Row.new _ _ _
  obtain ⟨w4, hw4⟩ : ∃ w4, w4 = w3.alloc (.cells #[.int .i64 r.1, .int .i64 r.2.1, o2, g2] 30) := ⟨_, rfl⟩
  have e4 : w4.heap.size = w.heap.size + 4 := by rw [hw4]; simp [e3]
  have B4 : Below w3.heap.size w3 w4 := by rw [hw4]; exact below_alloc _ _
  have R4 : Row w4 (w.heap.size + 3) 30 [.int .i64 r.1, .int .i64 r.2.1, o2, g2] := by rw [hw4, ← e3]; exact Row.new _ _ _
  have R1 := ((R1.below B2).below B3).below B4
  have R2 := (R2.below B3).below B4
  have R3 := R3.below B4
  have B : Below w.heap.size w w4 := below_and (below_and (below_and B1 (Nat.le_refl _) B2) (Nat.le_refl _) B3) (Nat.le_refl _) B4
  have hw : w4 = ((((w.alloc (.cells #[.int .i64 was.1, .int .i64 was.2] 27)).alloc (.cells #[.int .i64 b.1, .int .i64 b.2] 27)).alloc (.cells #[.int .i64 old.1, .int .i64 old.2.1, o1, g1] 30)).alloc (.cells #[.int .i64 r.1, .int .i64 r.2.1, o2, g2] 30)) := by rw [hw4, hw3, hw2, hw1]
  clear hw1 hw2 hw3 hw4 e1 e2 e3 e4 B1 B2 B3 B4
  have hC := refCompareB_any w4 was.1 was.2 b.1 b.2
  have hF : fitL was b old r = (decide (cmp2 was.1 was.2 b.1 b.2 < 0) || (decide (cmp2 was.1 was.2 b.1 b.2 = 0) && decide (old = r))) := rfl
  rw [hF]
  clear hF
  generalize cmp2 was.1 was.2 b.1 b.2 = c at *
  generalize hdd : decide (old = r) = dd
  go_enter Try.func44, Try.ntmps44
  go_upto_region 1 with fail
  rw [← hw]
  clear hw
  go_upto_region 2 with (first
    | (refine wl_load rfl _ _ rfl w.heap.size rfl _ _ R1 _ Try.underlying27 rfl (by kernel_rfl) ?_)
    | (refine wl_load rfl _ _ rfl (w.heap.size + 1) rfl _ _ R2 _ Try.underlying27 rfl (by kernel_rfl) ?_)
    | (go_at_call 53; refine hC.mono ?_; rintro e w5 ⟨rfl, b5⟩))
  have BB := below_and B (Nat.le_refl _) b5
  have RO := R3.below b5
  have RR := R4.below b5
  have hS := sameReq_any w5 [.int .i64 old.1, .int .i64 old.2.1, o1, g1] [.int .i64 r.1, .int .i64 r.2.1, o2, g2] old r ⟨_, _, rfl, ho1.mv (Mv.below BB), hg1.mv (Mv.below BB)⟩ ⟨_, _, rfl, ho2.mv (Mv.below BB), hg2.mv (Mv.below BB)⟩
  rw [hdd] at hS
  clear hC R1 R2 R3 R4 ho1 hg1 ho2 hg2 hdd
  by_cases h1 : c < 0
  · have d1 : decide (c < 0) = true := by simpa using h1
    go_wp2_with fail
    go_ret
    exact ⟨by simp [d1], BB⟩
  · have d1 : decide (c < 0) = false := by simpa using h1
    by_cases h2 : c = 0
    · subst h2
      go_wp2_with (first
        | (refine wl_load_w (by rfl) _ _ rfl (w.heap.size + 2) rfl _ _ RO _ Try.underlying30 rfl (by kernel_rfl) ?_)
        | (refine wl_load_w (by rfl) _ _ rfl (w.heap.size + 3) rfl _ _ RR _ Try.underlying30 rfl (by kernel_rfl) ?_))
      refine hS.mono ?_
      rintro e w6 ⟨rfl, b6⟩
      go_wp2_with fail
      go_ret
      exact ⟨by simp, below_and BB (Nat.le_refl _) b6⟩
    · have d2 : (c == 0) = false := by simpa using h2
      have d3 : decide (c = 0) = false := by simpa using h2
      go_wp2_with fail
      go_ret
      exact ⟨by simp [d1, d3], BB⟩
end Go.Proofs.Ytagoeccgmkjhoaa
