/- catenarylaw05.MsgBodies. -/
import Derived.Test.YtogifpainhepoaaMAlive
import Derived.Test.YtogifpainhepoaaLc
import Derived.Test.YtogifpainhepoaaS3
import Derived.Test.YtogifpainhepoaaOpen6
import Derived.Test.YtogifpainhepoaaY3
set_option linter.unusedVariables false
namespace Go.Proofs.Ytogifpainhepoaa
open Go.RowKit Oct

theorem RReq.below {w w' : World} {r : List Value} {x : PReq} (h : RReq Any w r x) (hb : Below w.heap.size w w') : RReq Any w' r x := mov_req _ _ _ _ _ _ h hb.size (Mv.below hb)
theorem RReq.any {B : Nat} {w : World} {r : List Value} {x : PReq} (h : RReq (From B) w r x) : RReq Any w r x := mov_req _ _ _ _ _ _ h (Nat.le_refl _) Mv.any

set_option maxRecDepth 10000 in
set_option maxHeartbeats 2000000 in
/-- MsgBodies. -/
theorem bodies_any (w : World) (r s : List Value) (x y : PReq) (hr : RReq Any w r x) (hs : RReq Any w s y) (zx : szQ x) (zy : szQ y) (tx : tot [x.2.2.1, x.2.2.2] ≤ 10000000) (ty : tot [y.2.2.1, y.2.2.2] ≤ 10000000)
    (hinj : body x = body y ↔ x = y) :
    Calls Try.prog 8 #[.agg r.toArray, .agg s.toArray] w fun e w' => e = .returned (.bool true) ∧ Below w.heap.size w w' := by
  have hrc := hr
  have hsc := hs
  obtain ⟨o1, g1, rfl, _, _⟩ := hrc
  obtain ⟨o2, g2, rfl, _, _⟩ := hsc
  obtain ⟨w2, hw2⟩ : ∃ w2, w2 = (w.alloc (.cells #[.int .i64 x.1, .int .i64 x.2.1, o1, g1] 28)).alloc (.cells #[.int .i64 y.1, .int .i64 y.2.1, o2, g2] 28) := ⟨_, rfl⟩
  have ra : Row w2 w.heap.size 28 [.int .i64 x.1, .int .i64 x.2.1, o1, g1] := by rw [hw2]; exact row_alloc (Row.new w 28 _) _
  have rb : Row w2 (w.heap.size + 1) 28 [.int .i64 y.1, .int .i64 y.2.1, o2, g2] := by
    rw [hw2]
    have := Row.new (w.alloc (.cells #[.int .i64 x.1, .int .i64 x.2.1, o1, g1] 28)) 28 [.int .i64 y.1, .int .i64 y.2.1, o2, g2]
    simpa using this
  have hB : Below w.heap.size w w2 := by rw [hw2]; exact ((Below.refl _ w).alloc (Nat.le_refl _) _).alloc (by simp) _
  go_enter Try.func8, Try.ntmps8
  go_upto_region 1 with fail
  rw [← hw2]
  clear hw2
  go_wp2_with fail
  refine (alive_any w2).mono ?_
  rintro e w3 ⟨rfl, hb3⟩
  have ra3 := ra.below hb3
  have rb3 := rb.below hb3
  have hB3 := below_and hB (Nat.le_refl _) hb3
  clear ra rb hb3 hB
  have hr3 := hr.below hB3
  have hs3 := hs.below hB3
  have hdw : Below w3.heap.size w3 w3.drew := ⟨rfl, rfl, rfl, Nat.le_refl _, fun _ _ => rfl⟩
  have SK := (show Hid (∀ u, Below w3.heap.size w3 u → u.cell? ⟨w.heap.size, 0, none⟩ = some (.int .i64 x.1) ∧ u.cell? ⟨w.heap.size, 1, none⟩ = some (.int .i64 x.2.1) ∧ u.cell? ⟨w.heap.size, 2, none⟩ = some o1 ∧ u.cell? ⟨w.heap.size, 3, none⟩ = some g1 ∧ u.cell? ⟨w.heap.size + 1, 0, none⟩ = some (.int .i64 y.1) ∧ u.cell? ⟨w.heap.size + 1, 1, none⟩ = some (.int .i64 y.2.1) ∧ u.cell? ⟨w.heap.size + 1, 2, none⟩ = some o2 ∧ u.cell? ⟨w.heap.size + 1, 3, none⟩ = some g2) from fun u hu => ⟨(ra3.below hu).cell (j := 0) rfl, (ra3.below hu).cell (j := 1) rfl, (ra3.below hu).cell (j := 2) rfl, (ra3.below hu).cell (j := 3) rfl, (rb3.below hu).cell (j := 0) rfl, (rb3.below hu).cell (j := 1) rfl, (rb3.below hu).cell (j := 2) rfl, (rb3.below hu).cell (j := 3) rfl⟩)
  have HC := (show Hid (∀ _ : Unit, _) from fun _ => copyReq_any w3.drew _ x (hr3.below hdw) zx)
  have hdd : decide (body x = body y) = decide (x = y) := by simp [hinj]
  obtain ⟨k0, k1, k2, k3, k4, k5, k6, k7⟩ := SK.out w3 (Below.refl _ _)
  clear ra3 rb3 hr hs
  go_wp2_with fail
  go_region_held3 (fun u => u.cell? ⟨w.heap.size, 0, none⟩ = some (.int .i64 x.1) ∧ u.cell? ⟨w.heap.size, 1, none⟩ = some (.int .i64 x.2.1) ∧ u.cell? ⟨w.heap.size, 2, none⟩ = some o1 ∧ u.cell? ⟨w.heap.size, 3, none⟩ = some g1 ∧ u.cell? ⟨w.heap.size + 1, 0, none⟩ = some (.int .i64 y.1) ∧ u.cell? ⟨w.heap.size + 1, 1, none⟩ = some (.int .i64 y.2.1) ∧ u.cell? ⟨w.heap.size + 1, 2, none⟩ = some o2 ∧ u.cell? ⟨w.heap.size + 1, 3, none⟩ = some g2)
    (first | exact SK.out _ (by assumption) | go_keep)
    (first
      | (go_at_call 17; refine (body_any w6 r6 y hR6.any ty).mono ?_; rintro e w7 ⟨v7, rfl, hown7, hfr7, hb7⟩; have hB7 := below_and hB6 (Nat.le_refl _) hb7)
      | (go_at_call 18; refine (copyReq_any w5 _ y (hs3.below hB5) zy).mono ?_; rintro e w6 ⟨r6, rfl, hR6, hb6⟩; have hB6 := below_and hB5 (Nat.le_refl _) hb6)
      | (go_at_call 17; refine (body_any w4 r4 x hR4.any tx).mono ?_; rintro e w5 ⟨v5, rfl, hown5, hfr5, hb5⟩; have hB5 := below_and hB4 (Nat.le_refl _) hb5)
      | (go_at_call 18; refine (HC.out ()).mono ?_; rintro e w4 ⟨r4, rfl, hR4, hb4⟩; have hB4 : Below w3.heap.size w3 w4 := hdw.trans hb4))
  have hown5' := (hown5.below hb6).below hb7
  clear hR4 hR6 hfr5 hfr7 HC hb6 hb7 hb5 hb4
  have hd7 : Below w3.heap.size w3 w7.drew := hB7.trans ⟨rfl, rfl, rfl, Nat.le_refl _, fun _ _ => rfl⟩
  have hd77 : Below w7.heap.size w7 w7.drew := ⟨rfl, rfl, rfl, Nat.le_refl _, fun _ _ => rfl⟩
  have HB := (show Hid (∀ _ : Unit, _) from fun _ => refBody_any w7.drew _ x (hr3.below hd7) tx)
  have bx : Byt (body x) := Byt.app (Byt.app (le8_byt _) (le8_byt _)) (packL_byt (ll := [x.2.2.1, x.2.2.2]) (fun l hl => by
    obtain ⟨_, _, _, t1, t2⟩ := hr3
    simp only [List.mem_cons, List.not_mem_nil, or_false] at hl
    rcases hl with rfl | rfl
    · exact t1.1.1
    · exact t2.1.1) (by omega))
  have by' : Byt (body y) := Byt.app (Byt.app (le8_byt _) (le8_byt _)) (packL_byt (ll := [y.2.2.1, y.2.2.2]) (fun l hl => by
    obtain ⟨_, _, _, t1, t2⟩ := hs3
    simp only [List.mem_cons, List.not_mem_nil, or_false] at hl
    rcases hl with rfl | rfl
    · exact t1.1.1
    · exact t2.1.1) (by omega))
  have hB37 := below_and hB3 (Nat.le_refl _) hB7
  go_wp2_with fail
  go_region_held3 (fun u => u.cell? ⟨w.heap.size, 0, none⟩ = some (.int .i64 x.1) ∧ u.cell? ⟨w.heap.size, 1, none⟩ = some (.int .i64 x.2.1) ∧ u.cell? ⟨w.heap.size, 2, none⟩ = some o1 ∧ u.cell? ⟨w.heap.size, 3, none⟩ = some g1 ∧ u.cell? ⟨w.heap.size + 1, 0, none⟩ = some (.int .i64 y.1) ∧ u.cell? ⟨w.heap.size + 1, 1, none⟩ = some (.int .i64 y.2.1) ∧ u.cell? ⟨w.heap.size + 1, 2, none⟩ = some o2 ∧ u.cell? ⟨w.heap.size + 1, 3, none⟩ = some g2)
    (first | exact SK.out _ (by assumption) | go_keep)
    (first
      | (go_at_call 20; refine (sameReq_any _ _ _ x y (hr3.below hB8) (hs3.below hB8)).mono ?_; rintro e w10 ⟨rfl, hb9⟩; have hB9 := below_and hB8 (Nat.le_refl _) hb9; have hB39 := below_and hB38 (Nat.le_refl _) hb9; generalize decide (x = y) = dd at *)
      | (go_at_call 13; have hh := hS1; refine (HS2.out ()).mono ?_; rintro e w9 ⟨rfl, rfl⟩)
      | (go_at_call 13; refine (HS1.out ()).mono ?_; rintro e w9 ⟨rfl, rfl⟩; have hS1 := trivial)
      | (go_at_call 19; refine (HB.out ()).mono ?_; rintro e w8 ⟨v8, rfl, hown8, hfr8, hb8⟩; have hb78 : Below w7.heap.size w7 w8 := hd77.trans hb8; have hB8 := below_and hB7 (Nat.le_refl _) hb78; have hB38 := below_and hB3 (Nat.le_refl _) hB8; have HS1 := (show Hid (∀ _ : Unit, _) from fun _ => same_eq_any w8 v5 v8 (body x) ((hown5'.below hb78).rd bx) (hown8.rd bx)); have hs2 := same_any w8 v5 v7 (body x) (body y) ((hown5'.below hb78).rd bx) ((hown7.below hb78).rd by'); rw [hdd] at hs2; have HS2 := (show Hid (∀ _ : Unit, _) from fun _ => hs2); clear hs2 hb8))
  go_wp2_with fail
  cases dd with
  | false =>
    go_wp2_with fail
    go_ret
    exact ⟨rfl, hB39⟩
  | true =>
    go_wp2_with fail
    go_ret
    exact ⟨rfl, hB39⟩
theorem bodies_row (w : World) (r s : List Value) (x y : PReq) (hr : RReq Any w r x) (hs : RReq Any w s y) (bx : bQ x ≤ 1048576) (by' : bQ y ≤ 1048576) (x1 : (Lit.int .i64 x.1).wf = true) (x2 : (Lit.int .i64 x.2.1).wf = true)
    (y1 : (Lit.int .i64 y.1).wf = true) (y2 : (Lit.int .i64 y.2.1).wf = true) :
    Calls Try.prog 8 #[.agg r.toArray, .agg s.toArray] w fun e w' => e = .returned (.bool true) ∧ Below w.heap.size w w' := by
  simp only [bQ, bT] at bx by'
  refine bodies_any w r s x y hr hs ⟨?_, ?_⟩ ⟨?_, ?_⟩ ?_ ?_ (body_inj ?_ ?_ (bounds_i64 x1) (bounds_i64 x2) (bounds_i64 y1) (bounds_i64 y2)) <;> simp only [szT, tot] <;> omega
end Go.Proofs.Ytogifpainhepoaa
