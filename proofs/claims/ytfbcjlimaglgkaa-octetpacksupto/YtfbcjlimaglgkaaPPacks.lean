/- PROVED HERE: at all arguments catenarylaw01.OctetPacks returns true and leaves its arguments as they were (the statement OctetPacksUptoSaid); under one condition: what comes in holds at most 1048576 values and letters. -/
import Derived.Test.YtfbcjlimaglgkaaRows
import Derived.Test.YtfbcjlimaglgkaaLPacks
import Derived.Test.YtfbcjlimaglgkaaOpen
import Derived.Test.YtfbcjlimaglgkaaBulk
import Derived.JoinedCond
namespace Go.Proofs.Ytfbcjlimaglgkaa
open Go.ChangeShapes Go.WideShapes Go.ChangeAt Go.RowKit

theorem octetPacks_own : ownKnob Try.prog.godebug = none := by kernel_rfl
theorem octetPacks_laidOut : laidOutB Try.prog = true := by kernel_rfl
theorem octetPacks_cells5 : Try.prog.cellsOf 5 = 1 := by kernel_rfl
theorem octetPacks_cells23 : Try.prog.cellsOf 23 = 1 := by kernel_rfl

theorem octetPacks_contract (H : Type) (enc : TypeId × Value → H) (W : World) (base : Nat) (args : Array Value) (ds gs : List (DataW H)) (before : List MemPlace)
    (hval : ∀ (j : Nat) t v, Try.f7.params[j]? = some t → args[j]? = some v → Value.okWide Try.prog W .any base t v)
    (hW : DataW.Whole enc Try.prog Try.f7.params.toList Rows.octetPacksSpec.vars false W args.toList ds gs before) (hk : Rows.uptoSmall H (ds ++ gs) = true) :
    Calls Try.prog 7 args W fun e W' => ∃ v, e = .returned v ∧ Rows.octetPacksSpec.post enc Try.prog Try.f7 false true false false W args v W' := by
  have hW' := hW
  obtain ⟨p, q, hA0, hV, rfl, hfz, hnd⟩ := hW
  have hA : DataW.TrodAll enc Try.prog W 0 (fun _ => true) true Try.f7.params.toList args.toList ds p := hA0
  rw [Try.params7] at hA hval
  obtain ⟨v0, vs0, d0, ds0, p0, q0, hargs, rfl, rfl, h0, r0⟩ := trodAll_cons hA
  obtain ⟨rfl, rfl, rfl⟩ := trodAll_nil r0
  obtain rfl : args = #[v0] := by cases args; simp_all
  obtain ⟨rfl, rfl⟩ := trodVars_none hV
  simp only [List.append_nil] at hk
  obtain ⟨a0, len0, cap0, rfl⟩ := okWide_slice Try.underlying43 (hval 0 43 v0 rfl rfl)
  have lt0 : ∀ x ∈ p0, x.block < W.heap.size := by obtain ⟨m, hm⟩ := h0; exact DataW.trod_lt m _ _ _ hm
  obtain ⟨l0, hrd0, hd0⟩ := open_bytess Try.underlying43 Try.underlying23 Try.underlying5 octetPacks_cells23 octetPacks_cells5 h0
  have hlen0 := bulk_bytess_in hk hd0 (by simp)
  clear hA0
  refine (packs_any W _ l0 hrd0 hlen0).mono fun e W' ⟨he, bel⟩ => ?_
  subst he
  exact ⟨_, rfl, _, _, _, [], _, [], hW', trodAll_mk1 (shut_bool Try.underlying4 _), (trodAll_cons_mk (Below.trod octetPacks_laidOut (by kernel_rfl) (of_decide_eq_true (by kernel_rfl)) h0 bel lt0) trodAll_mk0), rfl, bel.frame _, fun h => by cases h⟩

set_option maxRecDepth 100000 in
theorem octetPacks_lifted (os : Os) (started : os.Started) (H : Type) (enc : TypeId × Value → H) (F : Stop.Interp) :
    ReturnsInHanded {} Try.checked os 7 .any ((Rows.OpenSpec.upto Rows.octetPacksSpec).pre6 enc Try.prog Try.f7 Rows.octetPacksUptoRow.domain false) (((Rows.OpenSpec.upto Rows.octetPacksSpec).at F).post enc Try.prog Try.f7 false true false false) := by
  refine returnsInHanded_of_cond (C := Try.checked) (s := Rows.OpenSpec.upto Rows.octetPacksSpec) (k := Rows.uptoSmall) rfl octetPacks_own started (by kernel_rfl) Try.func7
    (OpenSpec.witness (enc := enc) (C := Try.checked) (s := Rows.OpenSpec.upto Rows.octetPacksSpec) (k := Rows.uptoSmall) rfl false ⟨#[], #[.slice none 0 0], []⟩ 8 (by kernel_rfl) (by kernel_rfl) (by kernel_rfl)
      (x := ([.nil], [], [])) (by kernel_rfl) rfl (by kernel_rfl)) ?_
  intro W base args ds gs before hval hW _ hk _
  exact octetPacks_contract H enc W base args ds gs before hval hW hk

theorem octetPacks_proved : Rows.OctetPacksUptoSaid :=
  OpenClaim.holds_of_cond 7 Try.f7 rfl rfl rfl rfl rfl rfl rfl ⟨rfl, rfl, rfl, rfl, rfl⟩ rfl rfl rfl rfl rfl (by kernel_rfl) Try.func7 (by kernel_rfl)
    (of_decide_eq_true (by kernel_rfl)) (by unfold Func.isWrapper; first | (rw [if_pos (by decide +kernel)]; kernel_rfl) | (rw [if_neg (by decide +kernel)]; exact ⟨rfl, rfl⟩))
    (fun os started H enc _ F => octetPacks_lifted os started H enc F)
#print axioms octetPacks_proved
end Go.Proofs.Ytfbcjlimaglgkaa
