/- PROVED HERE: at all arguments catenarylaw05.MsgBodies returns true and leaves its arguments as they were (the statement MsgBodiesUptoSaid); under one condition: what comes in holds at most 1048576 values and letters. -/
import Derived.Test.YtogifpainhepoaaRows
import Derived.Test.YtogifpainhepoaaLMBodies
import Derived.Test.YtogifpainhepoaaOpen6
import Derived.Test.YtogifpainhepoaaOpen
import Derived.Test.YtogifpainhepoaaBulk
import Derived.JoinedCond
namespace Go.Proofs.Ytogifpainhepoaa
open Go.ChangeShapes Go.WideShapes Go.ChangeAt Go.RowKit

theorem msgBodies_own : ownKnob Try.prog.godebug = none := by kernel_rfl
theorem msgBodies_laidOut : laidOutB Try.prog = true := by kernel_rfl
theorem msgBodies_cells5 : Try.prog.cellsOf 5 = 1 := by kernel_rfl

set_option maxRecDepth 100000 in
theorem msgBodies_contract (H : Type) (enc : TypeId × Value → H) (W : World) (base : Nat) (args : Array Value) (ds gs : List (DataW H)) (before : List MemPlace)
    (hval : ∀ (j : Nat) t v, Try.f8.params[j]? = some t → args[j]? = some v → Value.okWide Try.prog W .any base t v)
    (hW : DataW.Whole enc Try.prog Try.f8.params.toList Rows.msgBodiesSpec.vars false W args.toList ds gs before) (hk : Rows.uptoSmall H (ds ++ gs) = true) :
    Calls Try.prog 8 args W fun e W' => ∃ v, e = .returned v ∧ Rows.msgBodiesSpec.post enc Try.prog Try.f8 false true false false W args v W' := by
  have hW' := hW
  obtain ⟨p, q, hA0, hV, rfl, hfz, hnd⟩ := hW
  have hA : DataW.TrodAll enc Try.prog W 0 (fun _ => true) true Try.f8.params.toList args.toList ds p := hA0
  rw [Try.params8] at hA hval
  obtain ⟨v0, vs0, d0, ds0, p0, q0, hargs, rfl, rfl, h0, r0⟩ := trodAll_cons hA
  obtain ⟨v1, vs1, d1, ds1, p1, q1, rfl, rfl, rfl, h1, r1⟩ := trodAll_cons r0
  obtain ⟨rfl, rfl, rfl⟩ := trodAll_nil r1
  obtain rfl : args = #[v0, v1] := by cases args; simp_all
  obtain ⟨rfl, rfl⟩ := trodVars_none hV
  simp only [List.append_nil] at hk
  have lt0 : ∀ x ∈ p0, x.block < W.heap.size := by obtain ⟨m, hm⟩ := h0; exact DataW.trod_lt m _ _ _ hm
  obtain ⟨c0, x0, rfl, hrd0, hb0, hz0, hr0, hq0⟩ := open_req (hval 0 28 v0 rfl rfl) h0
  have hlen0 := Nat.le_trans hb0 (Nat.le_trans (bulk_part (by simp)) (bulk_all hk))
  clear hb0 hz0
  have lt1 : ∀ x ∈ p1, x.block < W.heap.size := by obtain ⟨m, hm⟩ := h1; exact DataW.trod_lt m _ _ _ hm
  obtain ⟨c1, x1, rfl, hrd1, hb1, hz1, hr1, hq1⟩ := open_req (hval 1 28 v1 rfl rfl) h1
  have hlen1 := Nat.le_trans hb1 (Nat.le_trans (bulk_part (by simp)) (bulk_all hk))
  clear hb1 hz1
  clear hA0
  refine (bodies_row W c0 c1 x0 x1 hrd0 hrd1 hlen0 hlen1 hr0 hq0 hr1 hq1).mono fun e W' ⟨he, bel⟩ => ?_
  subst he
  exact ⟨_, rfl, _, _, _, [], _, [], hW', trodAll_mk1 (shut_bool Try.underlying4 _), (trodAll_cons_mk (Below.trod msgBodies_laidOut (by kernel_rfl) (of_decide_eq_true (by kernel_rfl)) h0 bel lt0) (trodAll_cons_mk (Below.trod msgBodies_laidOut (by kernel_rfl) (of_decide_eq_true (by kernel_rfl)) h1 bel lt1) trodAll_mk0)), rfl, bel.frame _, fun h => by cases h⟩

set_option maxRecDepth 100000 in
theorem msgBodies_lifted (os : Os) (started : os.Started) (H : Type) (enc : TypeId × Value → H) (F : Stop.Interp) :
    ReturnsInHanded {} Try.checked os 8 .any ((Rows.OpenSpec.upto Rows.msgBodiesSpec).pre6 enc Try.prog Try.f8 Rows.msgBodiesUptoRow.domain false) (((Rows.OpenSpec.upto Rows.msgBodiesSpec).at F).post enc Try.prog Try.f8 false true false false) := by
  refine returnsInHanded_of_cond (C := Try.checked) (s := Rows.OpenSpec.upto Rows.msgBodiesSpec) (k := Rows.uptoSmall) rfl msgBodies_own started (by kernel_rfl) Try.func8
    (OpenSpec.witness (enc := enc) (C := Try.checked) (s := Rows.OpenSpec.upto Rows.msgBodiesSpec) (k := Rows.uptoSmall) rfl false ⟨#[], #[.agg #[.int .i64 0, .int .i64 0, .slice none 0 0, .slice none 0 0], .agg #[.int .i64 0, .int .i64 0, .slice none 0 0, .slice none 0 0]], []⟩ 8 (by kernel_rfl) (by kernel_rfl) (by kernel_rfl)
      (x := ([.agg [.lit (.int .i64 0), .lit (.int .i64 0), .nil, .nil], .agg [.lit (.int .i64 0), .lit (.int .i64 0), .nil, .nil]], [], [])) (by kernel_rfl) rfl (by kernel_rfl)) ?_
  intro W base args ds gs before hval hW _ hk _
  exact msgBodies_contract H enc W base args ds gs before hval hW hk

theorem msgBodies_proved : Rows.MsgBodiesUptoSaid :=
  OpenClaim.holds_of_cond 8 Try.f8 rfl rfl rfl rfl rfl rfl rfl ⟨rfl, rfl, rfl, rfl, rfl⟩ rfl rfl rfl rfl rfl (by kernel_rfl) Try.func8 (by kernel_rfl)
    (of_decide_eq_true (by kernel_rfl)) (by unfold Func.isWrapper; first | (rw [if_pos (by decide +kernel)]; kernel_rfl) | (rw [if_neg (by decide +kernel)]; exact ⟨rfl, rfl⟩))
    (fun os started H enc _ F => msgBodies_lifted os started H enc F)
#print axioms msgBodies_proved
end Go.Proofs.Ytogifpainhepoaa
