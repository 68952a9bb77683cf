/- The walks over the document's comparisons: reports. -/
import Derived.Test.YtgbfmccecnfooaaGreatDoorCLAL
import Derived.Test.YtgbfmccecnfooaaGreatDoorCLAP
import Derived.Test.YtgbfmccecnfooaaGreatDoorCLAT
import Derived.Test.YtgbfmccecnfooaaGreatDoorCLAR
import Derived.Test.YtgbfmccecnfooaaGreatDoorCLAN
import Derived.Test.YtgbfmccecnfooaaGreatDoorCLAH
import Derived.Test.YtgbfmccecnfooaaGreatDoorCLAM
import Derived.Deep.QuietTactic
import Derived.BigQuiet
set_option linter.unusedSimpArgs false
set_option linter.unusedVariables false
namespace Go.Proofs.YtgbfmccecnfooaaGreatDoor
section
open Go.RowKit Oct
theorem dec_req (x y : PReq) : decide (x = y) = (x.1 == y.1 && x.2.1 == y.2.1 && decide (x.2.2.1 = y.2.2.1) && decide (x.2.2.2 = y.2.2.2)) := by
  rw [Bool.eq_iff_iff]
  simp only [decide_eq_true_eq, Bool.and_eq_true, beq_iff_eq, Prod.ext_iff, and_assoc]
set_option maxHeartbeats 2000000 in
/-- SameReq. -/
theorem sameReq_any (w : World) (r1 r2 : List Value) (x y : PReq) (h1 : RReq Any w r1 x) (h2 : RReq Any w r2 y) :
    Calls Tryz.prog 28 #[.agg r1.toArray, .agg r2.toArray] w fun e w' => e = .returned (.bool (decide (x = y))) ∧ Below w.heap.size w w' := by
  obtain ⟨o1, g1, rfl, ho1, hg1⟩ := h1
  obtain ⟨o2, g2, rfl, ho2, hg2⟩ := h2
  obtain ⟨w2, hw2⟩ : ∃ w2, w2 = (w.alloc (.cells #[.int .i64 x.1, .int .i64 x.2.1, o1, g1] 62)).alloc (.cells #[.int .i64 y.1, .int .i64 y.2.1, o2, g2] 62) := ⟨_, rfl⟩
  have ra : Row w2 w.heap.size 62 [.int .i64 x.1, .int .i64 x.2.1, o1, g1] := by rw [hw2]; exact row_alloc (Row.new w 62 _) _
  have rb : Row w2 (w.heap.size + 1) 62 [.int .i64 y.1, .int .i64 y.2.1, o2, g2] := by
    rw [hw2]
    have := Row.new (w.alloc (.cells #[.int .i64 x.1, .int .i64 x.2.1, o1, g1] 62)) 62 [.int .i64 y.1, .int .i64 y.2.1, o2, g2]
    simpa using this
  have hB : Below w.heap.size w w2 := by rw [hw2]; exact ((Below.refl _ w).alloc (Nat.le_refl _) _).alloc (by simp) _
  have a0 := ra.cell (j := 0) rfl; have a1 := ra.cell (j := 1) rfl; have a2 := ra.cell (j := 2) rfl; have a3 := ra.cell (j := 3) rfl
  have b0 := rb.cell (j := 0) rfl; have b1 := rb.cell (j := 1) rfl; have b2 := rb.cell (j := 2) rfl; have b3 := rb.cell (j := 3) rfl
  have sO := same_any w2 o1 o2 _ _ (ho1.mv (Mv.below hB)).1 (ho2.mv (Mv.below hB)).1
  have sG := same_any w2 g1 g2 _ _ (hg1.mv (Mv.below hB)).1 (hg2.mv (Mv.below hB)).1
  rw [dec_req]
  clear ra rb ho1 hg1 ho2 hg2
  generalize x.1 = xa at *; generalize x.2.1 = xb at *; generalize y.1 = ya at *; generalize y.2.1 = yb at *
  generalize decide (x.2.2.1 = y.2.2.1) = dO at *
  generalize decide (x.2.2.2 = y.2.2.2) = dG at *
  go_enter Tryz.func28, Tryz.ntmps28
  go_upto_region 1 with fail
  rw [← hw2]
  clear hw2
  cases ha : (xa == ya)
  · go_wp2_with fail
    go_ret
    exact ⟨by rw [ha]; rfl, hB⟩
  cases hb : (xb == yb)
  · go_wp2_with fail
    go_ret
    exact ⟨by rw [ha, hb]; rfl, hB⟩
  cases dO with
  | false =>
    go_wp2_with (go_at_call 22; refine sO.mono ?_; rintro e w3 ⟨rfl, rfl⟩)
    go_ret
    exact ⟨by rw [ha, hb]; rfl, hB⟩
  | true =>
    go_wp2_with fail
    refine sO.mono ?_
    rintro e w3 ⟨rfl, rfl⟩
    go_wp2_with fail
    refine sG.mono ?_
    rintro e w3 ⟨rfl, rfl⟩
    go_wp2_with fail
    go_ret
    exact ⟨by rw [ha, hb]; cases dG <;> rfl, hB⟩
end
section
open Go.RowKit Oct
section
variable {P : Program}
/-- A part of a row is loaded, where a guard says yes. -/
theorem wl_part_w {ops : Array Oper} {rest : List Oper} {o : Oper} {a : Act} {w : World} {Q : Exit → Act → World → Prop} (hgd : Region.wanted o (yielded ops a.tmps) = true) (ty : TypeId) (x : Operand) (ho : o.op = .load ty x)
    (b off : Nat) (hx : a.eval x = .pointer (some ⟨b, off, none⟩)) (t : TypeId) (xs : List Value) (h : Row w b t xs) (cs : List Value) (hcs : (xs.drop off).take cs.length = cs) (d : TypeDesc) (hu : P.underlying ty = some d) (hd : d.isRow = true)
    (hi : (P.info? ty).map (·.size) = some cs.length) (k : wpList P ops Q rest (a.put o.dst (.agg cs.toArray)) w) : wpList P ops Q (o :: rest) a w :=
  wpList_wanted hgd fun _ hK => wp_load_mid ty x ho b off hx cs d (fun j v hj => by
    have := h.src off cs.length j v (by rw [hcs]; exact hj)
    rw [Addr.add_mid] at this
    exact this) hu hd hi (hK _ _ k)
end
theorem balNe_eq (a b : Int) (w : World) : (binOp .neq 23 (.agg #[.int .i64 a, .int .i64 b]) (.agg #[.int .i64 a, .int .i64 b])).run Tryz.prog w = .ok (.bool false) w := by
  rw [balNe]; simp
theorem same_eq_any (w : World) (u v : Value) (l : List Int) (ha : Rd w u l) (hb : Rd w v l) : Calls Tryz.prog 22 #[u, v] w fun e w' => e = .returned (.bool true) ∧ w' = w := by
  have := same_any w u v l l ha hb
  rw [decide_eq_true rfl] at this
  exact this
theorem sameReq_eq (w : World) (r1 r2 : List Value) (x : PReq) (h1 : RReq Any w r1 x) (h2 : RReq Any w r2 x) :
    Calls Tryz.prog 28 #[.agg r1.toArray, .agg r2.toArray] w fun e w' => e = .returned (.bool true) ∧ Below w.heap.size w w' := by
  have := sameReq_any w r1 r2 x x h1 h2
  rw [decide_eq_true rfl] at this
  exact this
set_option maxRecDepth 10000 in
set_option maxHeartbeats 4000000 in
/-- SameReport, of the same report. -/
theorem sameReport_eq (w : World) (r1 r2 : List Value) (x : PRep) (h1 : RRep Any w r1 x) (h2 : RRep Any w r2 x) :
    Calls Tryz.prog 10 #[.agg r1.toArray, .agg r2.toArray] w fun e w' => e = .returned (.bool true) ∧ Below w.heap.size w w' := by
  obtain ⟨d1, s1, p1, g1, rfl, hd1, hs1, hp1, hg1⟩ := h1
  obtain ⟨d2, s2, p2, g2, rfl, hd2, hs2, hp2, hg2⟩ := h2
  obtain ⟨ao1, ca1, rfl, hm1⟩ := hp1.form
  obtain ⟨ao2, ca2, rfl, hm2⟩ := hp2.form
  obtain ⟨w2, hw2⟩ : ∃ w2, w2 = (w.alloc (.cells #[.int .i64 x.1.1, .int .i64 x.1.2, .int .i64 x.2.1, .int .i64 x.2.2.1, d1, s1, .slice ao1 x.2.2.2.2.2.1.length ca1, g1] 28)).alloc (.cells #[.int .i64 x.1.1, .int .i64 x.1.2, .int .i64 x.2.1, .int .i64 x.2.2.1, d2, s2, .slice ao2 x.2.2.2.2.2.1.length ca2, g2] 28) := ⟨_, rfl⟩
  have ra : Row w2 w.heap.size 28 [.int .i64 x.1.1, .int .i64 x.1.2, .int .i64 x.2.1, .int .i64 x.2.2.1, d1, s1, .slice ao1 x.2.2.2.2.2.1.length ca1, g1] := by rw [hw2]; exact row_alloc (Row.new w 28 _) _
  have rb : Row w2 (w.heap.size + 1) 28 [.int .i64 x.1.1, .int .i64 x.1.2, .int .i64 x.2.1, .int .i64 x.2.2.1, d2, s2, .slice ao2 x.2.2.2.2.2.1.length ca2, g2] := by
    rw [hw2]
    have := Row.new (w.alloc (.cells #[.int .i64 x.1.1, .int .i64 x.1.2, .int .i64 x.2.1, .int .i64 x.2.2.1, d1, s1, .slice ao1 x.2.2.2.2.2.1.length ca1, g1] 28)) 28 [.int .i64 x.1.1, .int .i64 x.1.2, .int .i64 x.2.1, .int .i64 x.2.2.1, d2, s2, .slice ao2 x.2.2.2.2.2.1.length ca2, g2]
    simpa using this
  have hB : Below w.heap.size w w2 := by rw [hw2]; exact ((Below.refl _ w).alloc (Nat.le_refl _) _).alloc (by simp) _
  have sD := same_eq_any w2 d1 d2 _ (hd1.mv (Mv.below hB)).1 (hd2.mv (Mv.below hB)).1
  have sS := sameVotes_eq w2 s1 s2 _ (hs1.mv mov_vote hB.size (Mv.below hB)) (hs2.mv mov_vote hB.size (Mv.below hB))
  have hbn := balNe_eq x.1.1 x.1.2
  have hn1 : (x.2.1 != x.2.1) = false := by simp
  have hn2 : (x.2.2.1 != x.2.2.1) = false := by simp
  have hn3 : ((x.2.2.2.2.2.1.length : Int) != (x.2.2.2.2.2.1.length : Int)) = false := by simp
  go_enter Tryz.func10, Tryz.ntmps10
  go_upto_region 1 with fail
  rw [← hw2]
  clear hw2
  have a2 := ra.cell (j := 2) rfl; have a3 := ra.cell (j := 3) rfl; have a4 := ra.cell (j := 4) rfl; have a5 := ra.cell (j := 5) rfl
  have b2 := rb.cell (j := 2) rfl; have b3 := rb.cell (j := 3) rfl; have b4 := rb.cell (j := 4) rfl; have b5 := rb.cell (j := 5) rfl
  go_wp2_with (first
    | (refine wl_part rfl _ _ rfl w.heap.size 0 rfl _ _ ra [.int .i64 x.1.1, .int .i64 x.1.2] rfl _ Tryz.underlying23 rfl (by kernel_rfl) ?_)
    | (refine wl_part rfl _ _ rfl (w.heap.size + 1) 0 rfl _ _ rb [.int .i64 x.1.1, .int .i64 x.1.2] rfl _ Tryz.underlying23 rfl (by kernel_rfl) ?_))
  refine sD.mono ?_
  rintro e w3 ⟨rfl, rfl⟩
  clear sD
  go_wp2_with fail
  refine sS.mono ?_
  rintro e w4 ⟨rfl, hb4⟩
  have ra4 := ra.below hb4
  have rb4 := rb.below hb4
  have hB4 := below_and hB (Nat.le_refl _) hb4
  have a6 := ra4.cell (j := 6) rfl; have a7 := ra4.cell (j := 7) rfl
  have b6 := rb4.cell (j := 6) rfl; have b7 := rb4.cell (j := 7) rfl
  have sG := same_eq_any w4 g1 g2 _ (hg1.mv (Mv.below hB4)).1 (hg2.mv (Mv.below hB4)).1
  clear sS a2 a3 a4 a5 b2 b3 b4 b5 ra rb hB hb4
  go_wp2_with fail
  refine sG.mono ?_
  rintro e w5 ⟨rfl, rfl⟩
  clear sG
  have hlm : (x.2.2.2.2.2.1.length : Int) ≤ 9223372036854775807 := by
    obtain ⟨_, _, h, hm⟩ := hp1.form
    rcases Nat.eq_zero_or_pos x.2.2.2.2.2.1.length with h0 | h0
    · omega
    · obtain ⟨_, _, c, e, h1, h2, _⟩ := hp1.at h0
      unfold maxLen at h2
      omega
  clear hd1 hs1 hg1 hd2 hs2 hg2 a6 a7 b6 b7
  have ra := ra4
  have rb := rb4
  have hBB := hB4
  clear ra4 rb4 hB4
  generalize hys : x.2.2.2.2.2.1 = ys at *
  generalize x.1.1 = xv at *; generalize x.1.2 = xt at *; generalize x.2.1 = xr at *; generalize x.2.2.1 = xl at *
  have a6 := ra.cell (j := 6) rfl
  go_wp2_with fail
  go_loopw [63] (fun i wr => ∃ q : Nat, q ≤ ys.length ∧ i = .int .i64 q ∧ Below w.heap.size w wr ∧ Row wr (w.heap.size + 1) 28 [.int .i64 xv, .int .i64 xt, .int .i64 xr, .int .i64 xl, d2, s2, .slice ao2 ys.length ca2, g2]) (fun i _ => ys.length - (intOf i).toNat)
  case atStart => exact ⟨0, by omega, rfl, hBB, rb⟩
  case round =>
    obtain ⟨q, hq, rfl, hB, hrb⟩ := hrel
    by_cases hql : q < ys.length
    · obtain ⟨a, ha⟩ : ∃ a, ys[q]? = some a := ⟨_, List.getElem?_eq_getElem hql⟩
      obtain ⟨b1, o1, c1, hw1, _, _, _, hb1, hx1⟩ := hp1.at (by omega)
      obtain ⟨b2, o2, c2, hw2, _, _, _, hb2, hx2⟩ := hp2.at (by omega)
      injection hw1 with e1 e2 e3
      injection hw2 with f1 f2 f3
      subst e1 e3 f1 f3
      obtain ⟨r1, _, y1, vo1, vg1, vc1, rfl, t1, t2, t3⟩ := hx1 q a ha
      obtain ⟨r2, _, y2, vo2, vg2, vc2, rfl, t4, t5, t6⟩ := hx2 q a ha
      have y1 := rangeAt_block y1 (hB.block b1 hb1)
      have k1 := one_RPrep (G := Any) (w := w) (x := a) ⟨vo1, vg1, vc1, rfl, t1, t2, t3⟩
      have k2 := one_RPrep (G := Any) (w := w) (x := a) ⟨vo2, vg2, vc2, rfl, t4, t5, t6⟩
      have z1 := Row.new wr 66 [.int .i64 0, .int .i64 0, .int .i64 0, .int .i64 0, .int .i64 0, .slice none 0 0, .slice none 0 0, .slice none 0 0]
      have hbp := balNe_eq a.2.1.1 a.2.1.2
      have hnp : (a.1 != a.1) = false := by simp
      clear hx1 hx2 hp1 hp2 ra rb a6 hbn hn1 hn2
      go_wp2_with (first
        | (refine wpList_load_mid rfl _ _ rfl b1 (o1 + q * 8) rfl [.int .i64 a.1, .int .i64 a.2.1.1, .int .i64 a.2.1.2, .int .i64 a.2.2.1.1, .int .i64 a.2.2.1.2.1, vo1, vg1, vc1] _ y1 Tryz.underlying66 rfl (by kernel_rfl) ?_)
        | (refine wl_store rfl _ _ _ rfl wr.heap.size [.int .i64 a.1, .int .i64 a.2.1.1, .int .i64 a.2.1.2, .int .i64 a.2.2.1.1, .int .i64 a.2.2.1.2.1, vo1, vg1, vc1] rfl rfl _ _ z1 rfl (by kernel_rfl) k1 ?_; intro w6 hr6 hg6; have hb6 : Below wr.heap.size wr w6 := (below_alloc wr (.cells ([.int .i64 0, .int .i64 0, .int .i64 0, .int .i64 0, .int .i64 0, .slice none 0 0, .slice none 0 0, .slice none 0 0] : List Value).toArray 66)).trans (grown_below hg6 (by simp) (fun k hk => by cases hk; exact Nat.le_refl _)); have hrb6 := hrb.below hb6; have c6 := hrb6.cell (j := 6) rfl; have hB6 := below_and hB (Nat.le_refl _) hb6; have y2' := rangeAt_block y2 (hB6.block b2 hb2); have z2 := Row.new w6 66 [.int .i64 0, .int .i64 0, .int .i64 0, .int .i64 0, .int .i64 0, .slice none 0 0, .slice none 0 0, .slice none 0 0])
        | (refine wpList_load_mid rfl _ _ rfl b2 (o2 + q * 8) rfl [.int .i64 a.1, .int .i64 a.2.1.1, .int .i64 a.2.1.2, .int .i64 a.2.2.1.1, .int .i64 a.2.2.1.2.1, vo2, vg2, vc2] _ y2' Tryz.underlying66 rfl (by kernel_rfl) ?_)
        | (refine wl_store rfl _ _ _ rfl w6.heap.size [.int .i64 a.1, .int .i64 a.2.1.1, .int .i64 a.2.1.2, .int .i64 a.2.2.1.1, .int .i64 a.2.2.1.2.1, vo2, vg2, vc2] rfl rfl _ _ z2 rfl (by kernel_rfl) k2 ?_; intro w7 hr7 hg7; have hb7 : Below w6.heap.size w6 w7 := (below_alloc w6 (.cells ([.int .i64 0, .int .i64 0, .int .i64 0, .int .i64 0, .int .i64 0, .slice none 0 0, .slice none 0 0, .slice none 0 0] : List Value).toArray 66)).trans (grown_below hg7 (by simp) (fun k hk => by cases hk; exact Nat.le_refl _)); have r6 := hr6.out.below hb7; have r7 := hr7.out; have m0 := r6.cell (j := 0) rfl; have n0 := r7.cell (j := 0) rfl)
        | (refine wl_part_w (by rfl) _ _ rfl wr.heap.size 1 rfl _ _ r6 [.int .i64 a.2.1.1, .int .i64 a.2.1.2] rfl _ Tryz.underlying23 rfl (by kernel_rfl) ?_)
        | (refine wl_part_w (by rfl) _ _ rfl w6.heap.size 1 rfl _ _ r7 [.int .i64 a.2.1.1, .int .i64 a.2.1.2] rfl _ Tryz.underlying23 rfl (by kernel_rfl) ?_)
        | (refine wl_part_w (by rfl) _ _ rfl wr.heap.size 3 rfl _ _ r6 [.int .i64 a.2.2.1.1, .int .i64 a.2.2.1.2.1, vo1, vg1] rfl _ Tryz.underlying62 rfl (by kernel_rfl) ?_)
        | (refine wl_part_w (by rfl) _ _ rfl w6.heap.size 3 rfl _ _ r7 [.int .i64 a.2.2.1.1, .int .i64 a.2.2.1.2.1, vo2, vg2] rfl _ Tryz.underlying62 rfl (by kernel_rfl) ?_))
      have hB7 := below_and hB6 (Nat.le_refl _) hb7
      refine (sameReq_eq w7 [.int .i64 a.2.2.1.1, .int .i64 a.2.2.1.2.1, vo1, vg1] [.int .i64 a.2.2.1.1, .int .i64 a.2.2.1.2.1, vo2, vg2] a.2.2.1 ⟨_, _, rfl, t1.mv (Mv.below hB7), t2.mv (Mv.below hB7)⟩ ⟨_, _, rfl, t4.mv (Mv.below hB7), t5.mv (Mv.below hB7)⟩).mono ?_
      rintro e w8 ⟨rfl, hb8⟩
      have hB8 := below_and hB7 (Nat.le_refl _) hb8
      have m7 := (r6.below hb8).cell (j := 7) rfl
      have n7 := (r7.below hb8).cell (j := 7) rfl
      have hrb8 := (hrb6.below hb7).below hb8
      clear hr6 hg6 hr7 hg7 r6 r7 m0 n0 z1 z2 y1 y2 y2' c6
      go_wp2_with fail
      refine (sameVotes_eq w8 vc1 vc2 _ (t3.mv mov_vote hB8.size (Mv.below hB8)) (t6.mv mov_vote hB8.size (Mv.below hB8))).mono ?_
      rintro e w9 ⟨rfl, hb9⟩
      go_wp2_with fail
      go_roundw
      case rel => exact ⟨q + 1, by omega, by go_num, below_and hB8 (Nat.le_refl _) hb9, hrb8.below hb9⟩
      case measure => simp [intOf]; omega
    · go_wp2_with fail
      go_ret
      exact ⟨rfl, hB⟩
end
end Go.Proofs.YtgbfmccecnfooaaGreatDoor
