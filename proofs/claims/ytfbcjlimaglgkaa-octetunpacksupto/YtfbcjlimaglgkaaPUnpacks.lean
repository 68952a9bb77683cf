/- PROVED HERE: at all arguments catenarylaw01.OctetUnpacks returns true and leaves its arguments as they were (the statement OctetUnpacksUptoSaid); under one condition: what comes in holds at most 1048576 values and letters. -/
import Derived.Test.YtfbcjlimaglgkaaRows
import Derived.Test.YtfbcjlimaglgkaaLUnpacks
import Derived.Test.YtfbcjlimaglgkaaOpen
import Derived.Test.YtfbcjlimaglgkaaBulk
import Derived.JoinedCond
namespace Go.Proofs.Ytfbcjlimaglgkaa
open Go.ChangeShapes Go.WideShapes Go.ChangeAt Go.RowKit

theorem octetUnpacks_own : ownKnob Try.prog.godebug = none := by kernel_rfl
theorem octetUnpacks_laidOut : laidOutB Try.prog = true := by kernel_rfl
theorem octetUnpacks_cells5 : Try.prog.cellsOf 5 = 1 := by kernel_rfl

theorem octetUnpacks_contract (H : Type) (enc : TypeId × Value → H) (W : World) (base : Nat) (args : Array Value) (ds gs : List (DataW H)) (before : List MemPlace)
    (hval : ∀ (j : Nat) t v, Try.f8.params[j]? = some t → args[j]? = some v → Value.okWide Try.prog W .any base t v)
    (hW : DataW.Whole enc Try.prog Try.f8.params.toList Rows.octetUnpacksSpec.vars false W args.toList ds gs before) (hk : Rows.uptoSmall H (ds ++ gs) = true) :
    Calls Try.prog 8 args W fun e W' => ∃ v, e = .returned v ∧ Rows.octetUnpacksSpec.post enc Try.prog Try.f8 false true false false W args v W' := by
  have hW' := hW
  obtain ⟨p, q, hA0, hV, rfl, hfz, hnd⟩ := hW
  have hA : DataW.TrodAll enc Try.prog W 0 (fun _ => true) true Try.f8.params.toList args.toList ds p := hA0
  rw [Try.params8] at hA hval
  obtain ⟨v0, vs0, d0, ds0, p0, q0, hargs, rfl, rfl, h0, r0⟩ := trodAll_cons hA
  obtain ⟨rfl, rfl, rfl⟩ := trodAll_nil r0
  obtain rfl : args = #[v0] := by cases args; simp_all
  obtain ⟨rfl, rfl⟩ := trodVars_none hV
  simp only [List.append_nil] at hk
  obtain ⟨a0, len0, cap0, rfl⟩ := okWide_slice Try.underlying23 (hval 0 23 v0 rfl rfl)
  have lt0 : ∀ x ∈ p0, x.block < W.heap.size := by obtain ⟨m, hm⟩ := h0; exact DataW.trod_lt m _ _ _ hm
  obtain ⟨l0, hrd0, hd0⟩ := open_bytes Try.underlying23 Try.underlying5 octetUnpacks_cells5 h0
  have hlen0 := bulk_bytes_in hk hd0 (by simp)
  clear hA0
  refine (unpacks_any W _ l0 hrd0 hlen0).mono fun e W' ⟨he, bel⟩ => ?_
  subst he
  exact ⟨_, rfl, _, _, _, [], _, [], hW', trodAll_mk1 (shut_bool Try.underlying4 _), (trodAll_cons_mk (Below.trod octetUnpacks_laidOut (by kernel_rfl) (of_decide_eq_true (by kernel_rfl)) h0 bel lt0) trodAll_mk0), rfl, bel.frame _, fun h => by cases h⟩

set_option maxRecDepth 100000 in
theorem octetUnpacks_lifted (os : Os) (started : os.Started) (H : Type) (enc : TypeId × Value → H) (F : Stop.Interp) :
    ReturnsInHanded {} Try.checked os 8 .any ((Rows.OpenSpec.upto Rows.octetUnpacksSpec).pre6 enc Try.prog Try.f8 Rows.octetUnpacksUptoRow.domain false) (((Rows.OpenSpec.upto Rows.octetUnpacksSpec).at F).post enc Try.prog Try.f8 false true false false) := by
  refine returnsInHanded_of_cond (C := Try.checked) (s := Rows.OpenSpec.upto Rows.octetUnpacksSpec) (k := Rows.uptoSmall) rfl octetUnpacks_own started (by kernel_rfl) Try.func8
    (OpenSpec.witness (enc := enc) (C := Try.checked) (s := Rows.OpenSpec.upto Rows.octetUnpacksSpec) (k := Rows.uptoSmall) rfl false ⟨#[], #[.slice none 0 0], []⟩ 8 (by kernel_rfl) (by kernel_rfl) (by kernel_rfl)
      (x := ([.nil], [], [])) (by kernel_rfl) rfl (by kernel_rfl)) ?_
  intro W base args ds gs before hval hW _ hk _
  exact octetUnpacks_contract H enc W base args ds gs before hval hW hk

theorem octetUnpacks_proved : Rows.OctetUnpacksUptoSaid :=
  OpenClaim.holds_of_cond 8 Try.f8 rfl rfl rfl rfl rfl rfl rfl ⟨rfl, rfl, rfl, rfl, rfl⟩ rfl rfl rfl rfl rfl (by kernel_rfl) Try.func8 (by kernel_rfl)
    (of_decide_eq_true (by kernel_rfl)) (by unfold Func.isWrapper; first | (rw [if_pos (by decide +kernel)]; kernel_rfl) | (rw [if_neg (by decide +kernel)]; exact ⟨rfl, rfl⟩))
    (fun os started H enc _ F => octetUnpacks_lifted os started H enc F)
#print axioms octetUnpacks_proved
end Go.Proofs.Ytfbcjlimaglgkaa
