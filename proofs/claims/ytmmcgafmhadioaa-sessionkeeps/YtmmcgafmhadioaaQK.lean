/- PROVED HERE: at all arguments catenarylaw09.SessionKeeps returns true and leaves its arguments as they were (the statement SessionKeepsSaid); no condition. -/
import Derived.Test.YtmmcgafmhadioaaRows
import Derived.Test.YtmmcgafmhadioaaXK
import Derived.Test.YtmmcgafmhadioaaOS
import Derived.Test.YtmmcgafmhadioaaOpen
section
namespace Go.Proofs.Ytmmcgafmhadioaa
open Go.ChangeShapes Go.WideShapes Go.ChangeAt Go.RowKit

theorem sessionKeeps_own : ownKnob Try.prog.godebug = none := by kernel_rfl
theorem sessionKeeps_laidOut : laidOutB Try.prog = true := by kernel_rfl
theorem sessionKeeps_cells5 : Try.prog.cellsOf 5 = 1 := by kernel_rfl
theorem sessionKeeps_bytes5 : Try.prog.bytesOf 5 = 1 := by kernel_rfl

set_option maxRecDepth 100000 in
theorem sessionKeeps_lifted (os : Os) (started : os.Started) (H : Type) (enc : TypeId × Value → H) :
    ReturnsInHanded {} Try.checked os 5 .any (Rows.sessionKeepsSpec.pre6 enc Try.prog Try.f5 Rows.sessionKeepsRow.domain false) (Rows.sessionKeepsSpec.post enc Try.prog Try.f5 false true false false) := by
  refine returnsInHanded_of_change_sized (C := Try.checked) sessionKeeps_own started (by kernel_rfl) Try.func5
    (ChangeSpec.witness6 (enc := enc) (C := Try.checked) false ⟨#[], #[.agg #[.int .i64 0, .slice none 0 0, .slice none 0 0, .slice none 0 0], .agg #[.int .i64 0, .int .i64 0, .slice none 0 0, .slice none 0 0]], []⟩ 8 (by kernel_rfl) (by kernel_rfl) (by kernel_rfl) (by kernel_rfl)) ?_
  intro W base args ds gs before hval0 hW _ hsz0 _
  have hval : ∀ (j : Nat) t v, Try.f5.params[j]? = some t → args[j]? = some v → Value.okWide Try.prog W .any base t v := hval0
  have hsz : (DataW.weightsEach Try.prog (Try.f5.params.toList ++ Rows.sessionKeepsSpec.plain.varTypes Try.prog) (ds ++ gs)).all (· ≤ reachBytes) = true := hsz0
  have hW' := hW
  obtain ⟨p, q, hA0, hV, rfl, hfz, hnd⟩ := hW
  have hA : DataW.TrodAll enc Try.prog W 0 (fun _ => true) true Try.f5.params.toList args.toList ds p := hA0
  rw [Try.params5] at hA hval hsz
  obtain ⟨v0, vs0, d0, ds0, p0, q0, hargs, rfl, rfl, h0, r0⟩ := trodAll_cons hA
  obtain ⟨v1, vs1, d1, ds1, p1, q1, rfl, rfl, rfl, h1, r1⟩ := trodAll_cons r0
  obtain ⟨rfl, rfl, rfl⟩ := trodAll_nil r1
  obtain rfl : args = #[v0, v1] := by cases args; simp_all
  obtain ⟨rfl, rfl⟩ := trodVars_none hV
  have lt0 : ∀ x ∈ p0, x.block < W.heap.size := by obtain ⟨m, hm⟩ := h0; exact DataW.trod_lt m _ _ _ hm
  obtain ⟨c0, x0, rfl, hrd0, hb0, hz0⟩ := open_app (hval 0 31 v0 rfl rfl) h0
  have hlen0 := hz0 (weightsK_arg hsz (j := 0) rfl rfl)
  clear hb0 hz0
  have lt1 : ∀ x ∈ p1, x.block < W.heap.size := by obtain ⟨m, hm⟩ := h1; exact DataW.trod_lt m _ _ _ hm
  obtain ⟨c1, x1, rfl, hrd1, hb1, hz1, hr1, hq1⟩ := open_req (hval 1 35 v1 rfl rfl) h1
  have hlen1 := hz1 (weights_arg hsz (j := 1) rfl rfl)
  clear hb1 hz1
  clear hA0
  refine (keepsA_any W c0 x0 c1 x1 hrd0 hrd1 hlen0 hlen1).mono fun e W' ⟨he, bel⟩ => ?_
  subst he
  exact ⟨_, rfl, _, _, _, [], _, [], hW', trodAll_mk1 (shut_bool Try.underlying4 _), (trodAll_cons_mk (Below.trod sessionKeeps_laidOut (by kernel_rfl) (of_decide_eq_true (by kernel_rfl)) h0 bel lt0) (trodAll_cons_mk (Below.trod sessionKeeps_laidOut (by kernel_rfl) (of_decide_eq_true (by kernel_rfl)) h1 bel lt1) trodAll_mk0)), rfl, bel.frame _, fun h => by cases h⟩

theorem sessionKeeps_proved : Rows.SessionKeepsSaid :=
  OpenClaim.holds_of_wide 5 Try.f5 rfl rfl rfl rfl rfl rfl rfl ⟨rfl, rfl, rfl, rfl, rfl⟩ rfl rfl rfl rfl rfl (by kernel_rfl) Try.func5 (by kernel_rfl)
    (of_decide_eq_true (by kernel_rfl)) (by unfold Func.isWrapper; first | (rw [if_pos (by decide +kernel)]; kernel_rfl) | (rw [if_neg (by decide +kernel)]; exact ⟨rfl, rfl⟩))
    (fun os started H enc _ => sessionKeeps_lifted os started H enc)
#print axioms sessionKeeps_proved
end Go.Proofs.Ytmmcgafmhadioaa
end
