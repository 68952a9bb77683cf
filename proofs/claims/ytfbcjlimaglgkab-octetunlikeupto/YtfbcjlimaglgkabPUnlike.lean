/- PROVED HERE: at all arguments catenarylaw01.OctetUnlike returns true and leaves its arguments as they were (the statement OctetUnlikeUptoSaid); under one condition: what comes in holds at most 1048576 values and letters. -/
import Derived.Test.YtfbcjlimaglgkabRows
import Derived.Test.YtfbcjlimaglgkabLUnlike
import Derived.Test.YtfbcjlimaglgkabOpen
import Derived.Test.YtfbcjlimaglgkabBulk
import Derived.JoinedCond
namespace Go.Proofs.Ytfbcjlimaglgkab
open Go.ChangeShapes Go.WideShapes Go.ChangeAt Go.RowKit

theorem octetUnlike_own : ownKnob Try.prog.godebug = none := by kernel_rfl
theorem octetUnlike_laidOut : laidOutB Try.prog = true := by kernel_rfl
theorem octetUnlike_cells5 : Try.prog.cellsOf 5 = 1 := by kernel_rfl
theorem octetUnlike_cells23 : Try.prog.cellsOf 24 = 1 := by kernel_rfl

theorem octetUnlike_contract (H : Type) (enc : TypeId × Value → H) (W : World) (base : Nat) (args : Array Value) (ds gs : List (DataW H)) (before : List MemPlace)
    (hval : ∀ (j : Nat) t v, Try.f3.params[j]? = some t → args[j]? = some v → Value.okWide Try.prog W .any base t v)
    (hW : DataW.Whole enc Try.prog Try.f3.params.toList Rows.octetUnlikeSpec.vars false W args.toList ds gs before) (hk : Rows.uptoSmall H (ds ++ gs) = true) :
    Calls Try.prog 3 args W fun e W' => ∃ v, e = .returned v ∧ Rows.octetUnlikeSpec.post enc Try.prog Try.f3 false true false false W args v W' := by
  have hW' := hW
  obtain ⟨p, q, hA0, hV, rfl, hfz, hnd⟩ := hW
  have hA : DataW.TrodAll enc Try.prog W 0 (fun _ => true) true Try.f3.params.toList args.toList ds p := hA0
  rw [Try.params3] at hA hval
  obtain ⟨v0, vs0, d0, ds0, p0, q0, hargs, rfl, rfl, h0, r0⟩ := trodAll_cons hA
  obtain ⟨v1, vs1, d1, ds1, p1, q1, rfl, rfl, rfl, h1, r1⟩ := trodAll_cons r0
  obtain ⟨rfl, rfl, rfl⟩ := trodAll_nil r1
  obtain rfl : args = #[v0, v1] := by cases args; simp_all
  obtain ⟨rfl, rfl⟩ := trodVars_none hV
  simp only [List.append_nil] at hk
  obtain ⟨a0, len0, cap0, rfl⟩ := okWide_slice Try.underlying22 (hval 0 22 v0 rfl rfl)
  have lt0 : ∀ x ∈ p0, x.block < W.heap.size := by obtain ⟨m, hm⟩ := h0; exact DataW.trod_lt m _ _ _ hm
  obtain ⟨l0, hrd0, hd0⟩ := open_bytess Try.underlying22 Try.underlying24 Try.underlying5 octetUnlike_cells23 octetUnlike_cells5 h0
  have hlen0 := bulk_bytess_in hk hd0 (by simp)
  obtain ⟨a1, len1, cap1, rfl⟩ := okWide_slice Try.underlying22 (hval 1 22 v1 rfl rfl)
  have lt1 : ∀ x ∈ p1, x.block < W.heap.size := by obtain ⟨m, hm⟩ := h1; exact DataW.trod_lt m _ _ _ hm
  obtain ⟨l1, hrd1, hd1⟩ := open_bytess Try.underlying22 Try.underlying24 Try.underlying5 octetUnlike_cells23 octetUnlike_cells5 h1
  have hlen1 := bulk_bytess_in hk hd1 (by simp)
  clear hA0
  refine (unlike_any W _ _ l0 l1 hrd0 hrd1 hlen0 hlen1).mono fun e W' ⟨he, bel⟩ => ?_
  subst he
  exact ⟨_, rfl, _, _, _, [], _, [], hW', trodAll_mk1 (shut_bool Try.underlying4 _), (trodAll_cons_mk (Below.trod octetUnlike_laidOut (by kernel_rfl) (of_decide_eq_true (by kernel_rfl)) h0 bel lt0) (trodAll_cons_mk (Below.trod octetUnlike_laidOut (by kernel_rfl) (of_decide_eq_true (by kernel_rfl)) h1 bel lt1) trodAll_mk0)), rfl, bel.frame _, fun h => by cases h⟩

set_option maxRecDepth 100000 in
theorem octetUnlike_lifted (os : Os) (started : os.Started) (H : Type) (enc : TypeId × Value → H) (F : Stop.Interp) :
    ReturnsInHanded {} Try.checked os 3 .any ((Rows.OpenSpec.upto Rows.octetUnlikeSpec).pre6 enc Try.prog Try.f3 Rows.octetUnlikeUptoRow.domain false) (((Rows.OpenSpec.upto Rows.octetUnlikeSpec).at F).post enc Try.prog Try.f3 false true false false) := by
  refine returnsInHanded_of_cond (C := Try.checked) (s := Rows.OpenSpec.upto Rows.octetUnlikeSpec) (k := Rows.uptoSmall) rfl octetUnlike_own started (by kernel_rfl) Try.func3
    (OpenSpec.witness (enc := enc) (C := Try.checked) (s := Rows.OpenSpec.upto Rows.octetUnlikeSpec) (k := Rows.uptoSmall) rfl false ⟨#[], #[.slice none 0 0, .slice none 0 0], []⟩ 8 (by kernel_rfl) (by kernel_rfl) (by kernel_rfl)
      (x := ([.nil, .nil], [], [])) (by kernel_rfl) rfl (by kernel_rfl)) ?_
  intro W base args ds gs before hval hW _ hk _
  exact octetUnlike_contract H enc W base args ds gs before hval hW hk

theorem octetUnlike_proved : Rows.OctetUnlikeUptoSaid :=
  OpenClaim.holds_of_cond 3 Try.f3 rfl rfl rfl rfl rfl rfl rfl ⟨rfl, rfl, rfl, rfl, rfl⟩ rfl rfl rfl rfl rfl (by kernel_rfl) Try.func3 (by kernel_rfl)
    (of_decide_eq_true (by kernel_rfl)) (by unfold Func.isWrapper; first | (rw [if_pos (by decide +kernel)]; kernel_rfl) | (rw [if_neg (by decide +kernel)]; exact ⟨rfl, rfl⟩))
    (fun os started H enc _ F => octetUnlike_lifted os started H enc F)
#print axioms octetUnlike_proved
end Go.Proofs.Ytfbcjlimaglgkab
