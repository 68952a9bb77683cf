/- The walks over the document's comparisons: reports. -/
import Derived.Test.YtgbfmccecnfooaaDoorCBAU
import Derived.Test.YtgbfmccecnfooaaDoorCBBB
import Derived.Test.YtgbfmccecnfooaaDoorCBBK
import Derived.Test.YtgbfmccecnfooaaDoorCBBH
import Derived.Test.YtgbfmccecnfooaaDoorCBAW
import Derived.Test.YtgbfmccecnfooaaDoorCBAO
import Derived.Deep.QuietTactic
import Derived.BigQuiet
set_option linter.unusedSimpArgs false
set_option linter.unusedVariables false
namespace Go.Proofs.YtgbfmccecnfooaaDoor
section
open Go.RowKit Oct
theorem dec_req (x y : PReq) : decide (x = y) = (x.1 == y.1 && x.2.1 == y.2.1 && decide (x.2.2.1 = y.2.2.1) && decide (x.2.2.2 = y.2.2.2)) := by
  rw [Bool.eq_iff_iff]
  simp only [decide_eq_true_eq, Bool.and_eq_true, beq_iff_eq, Prod.ext_iff, and_assoc]
set_option maxHeartbeats 2000000 in
/-- SameReq. -/
theorem sameReq_any (w : World) (r1 r2 : List Value) (x y : PReq) (h1 : RReq Any w r1 x) (h2 : RReq Any w r2 y) :
    Calls Tryd.prog 11 #[.agg r1.toArray, .agg r2.toArray] w fun e w' => e = .returned (.bool (decide (x = y))) ∧ Below w.heap.size w w' := by
  obtain ⟨o1, g1, rfl, ho1, hg1⟩ := h1
  obtain ⟨o2, g2, rfl, ho2, hg2⟩ := h2
  obtain ⟨w2, hw2⟩ : ∃ w2, w2 = (w.alloc (.cells #[.int .i64 x.1, .int .i64 x.2.1, o1, g1] 36)).alloc (.cells #[.int .i64 y.1, .int .i64 y.2.1, o2, g2] 36) := ⟨_, rfl⟩
  have ra : Row w2 w.heap.size 36 [.int .i64 x.1, .int .i64 x.2.1, o1, g1] := by rw [hw2]; exact row_alloc (Row.new w 36 _) _
  have rb : Row w2 (w.heap.size + 1) 36 [.int .i64 y.1, .int .i64 y.2.1, o2, g2] := by
    rw [hw2]
    have := Row.new (w.alloc (.cells #[.int .i64 x.1, .int .i64 x.2.1, o1, g1] 36)) 36 [.int .i64 y.1, .int .i64 y.2.1, o2, g2]
    simpa using this
  have hB : Below w.heap.size w w2 := by rw [hw2]; exact ((Below.refl _ w).alloc (Nat.le_refl _) _).alloc (by simp) _
  have a0 := ra.cell (j := 0) rfl; have a1 := ra.cell (j := 1) rfl; have a2 := ra.cell (j := 2) rfl; have a3 := ra.cell (j := 3) rfl
  have b0 := rb.cell (j := 0) rfl; have b1 := rb.cell (j := 1) rfl; have b2 := rb.cell (j := 2) rfl; have b3 := rb.cell (j := 3) rfl
  have sO := same_any w2 o1 o2 _ _ (ho1.mv (Mv.below hB)).1 (ho2.mv (Mv.below hB)).1
  have sG := same_any w2 g1 g2 _ _ (hg1.mv (Mv.below hB)).1 (hg2.mv (Mv.below hB)).1
  rw [dec_req]
  clear ra rb ho1 hg1 ho2 hg2
  generalize x.1 = xa at *; generalize x.2.1 = xb at *; generalize y.1 = ya at *; generalize y.2.1 = yb at *
  generalize decide (x.2.2.1 = y.2.2.1) = dO at *
  generalize decide (x.2.2.2 = y.2.2.2) = dG at *
  go_enter Tryd.func11, Tryd.ntmps11
  go_upto_region 1 with fail
  rw [← hw2]
  clear hw2
  cases ha : (xa == ya)
  · go_wp2_with fail
    go_ret
    exact ⟨by rw [ha]; rfl, hB⟩
  cases hb : (xb == yb)
  · go_wp2_with fail
    go_ret
    exact ⟨by rw [ha, hb]; rfl, hB⟩
  cases dO with
  | false =>
    go_wp2_with (go_at_call 20; refine sO.mono ?_; rintro e w3 ⟨rfl, rfl⟩)
    go_ret
    exact ⟨by rw [ha, hb]; rfl, hB⟩
  | true =>
    go_wp2_with fail
    refine sO.mono ?_
    rintro e w3 ⟨rfl, rfl⟩
    go_wp2_with fail
    refine sG.mono ?_
    rintro e w3 ⟨rfl, rfl⟩
    go_wp2_with fail
    go_ret
    exact ⟨by rw [ha, hb]; cases dG <;> rfl, hB⟩
end
section
open Go.RowKit Oct
section
variable {P : Program}
/-- A part of a row is loaded, where a guard says yes. -/
theorem wl_part_w {ops : Array Oper} {rest : List Oper} {o : Oper} {a : Act} {w : World} {Q : Exit → Act → World → Prop} (hgd : Region.wanted o (yielded ops a.tmps) = true) (ty : TypeId) (x : Operand) (ho : o.op = .load ty x)
    (b off : Nat) (hx : a.eval x = .pointer (some ⟨b, off, none⟩)) (t : TypeId) (xs : List Value) (h : Row w b t xs) (cs : List Value) (hcs : (xs.drop off).take cs.length = cs) (d : TypeDesc) (hu : P.underlying ty = some d) (hd : d.isRow = true)
    (hi : (P.info? ty).map (·.size) = some cs.length) (k : wpList P ops Q rest (a.put o.dst (.agg cs.toArray)) w) : wpList P ops Q (o :: rest) a w :=
  wpList_wanted hgd fun _ hK => wp_load_mid ty x ho b off hx cs d (fun j v hj => by
    have := h.src off cs.length j v (by rw [hcs]; exact hj)
    rw [Addr.add_mid] at this
    exact this) hu hd hi (hK _ _ k)
end
end
end Go.Proofs.YtgbfmccecnfooaaDoor
