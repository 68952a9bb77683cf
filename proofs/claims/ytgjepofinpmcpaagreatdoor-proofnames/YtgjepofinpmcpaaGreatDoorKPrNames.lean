/- PROVED HERE: at all arguments catenarylaw16.ProofNames returns true and leaves its arguments as they were (the statement ProofNamesCardSaid); no condition; the table sha.constants is laid by the program text, the card ties it. -/
import Derived.Test.YtgjepofinpmcpaaGreatDoorRows
import Derived.Test.YtgjepofinpmcpaaGreatDoorJBU
import Derived.Test.YtgjepofinpmcpaaGreatDoorJAT
import Derived.Test.YtgjepofinpmcpaaGreatDoorJBO
import Derived.Test.YtgjepofinpmcpaaGreatDoorCards
import Derived.Test.YtgjepofinpmcpaaGreatDoorTie
import Derived.Deep.DeepHandedRow
namespace Go.Proofs.YtgjepofinpmcpaaGreatDoor
open Go.ChangeShapes Go.WideShapes Go.ChangeAt Go.RowKit

theorem proofNames_own : ownKnob Tryz.prog.godebug = none := by kernel_rfl
theorem proofNames_laidOut : laidOutB Tryz.prog = true := by kernel_rfl
theorem proofNames_cells5 : Tryz.prog.cellsOf 5 = 1 := by kernel_rfl
theorem proofNames_bytes5 : Tryz.prog.bytesOf 5 = 1 := by kernel_rfl

theorem proofNames_contract (H : Type) (enc : TypeId × Value → H) (W : World) (base : Nat) (args : Array Value) (ds gs : List (DataW H)) (before : List MemPlace)
    (hval : ∀ (j : Nat) t v, Tryz.f3.params[j]? = some t → args[j]? = some v → Value.okWide Tryz.prog W .any base t v)
    (hW : DataW.Whole enc Tryz.prog Tryz.f3.params.toList Rows.proofNamesSpec.vars false W args.toList ds gs before)
    (hsz : (DataW.weightsEach Tryz.prog (Tryz.f3.params.toList ++ Rows.proofNamesSpec.plain.varTypes Tryz.prog) (ds ++ gs)).all (· ≤ reachBytes) = true)
    (hT : Tab W) :
    Calls Tryz.prog 3 args W fun e W' => ∃ v, e = .returned v ∧ Rows.proofNamesSpec.post enc Tryz.prog Tryz.f3 false true false false W args v W' := by
  have hW' := hW
  obtain ⟨p, q, hA0, hV, rfl, hfz, hnd⟩ := hW
  have hA : DataW.TrodAll enc Tryz.prog W 0 (fun _ => true) true Tryz.f3.params.toList args.toList ds p := hA0
  rw [Tryz.params3] at hA hval hsz
  obtain ⟨rfl, rfl, rfl⟩ := trodAll_none hA
  obtain ⟨rfl, rfl⟩ := trodVars_none hV
  clear hA0
  refine (prNames_any W hT).mono fun e W' ⟨he, bel⟩ => ?_
  subst he
  exact ⟨_, rfl, _, _, _, [], _, [], hW', trodAll_mk1 (shut_bool Tryz.underlying4 _), trodAll_mk0, rfl, bel.frame _, fun h => by cases h⟩

theorem proofNames_met (os : Os) : laidMet Tryz.prog Rows.proofNamesRow.laid ((laidWorld os).forCall (fun _ _ => 0) ⟨#[], #[], []⟩).memory :=
  laidMet_of_run' 8 (by kernel_rfl) (by kernel_rfl)
theorem proofNames_reads (os : Os) {H : Type} (enc : TypeId × Value → H) : ∃ places, DataW.whole enc Tryz.prog ((laidWorld os).forCall (fun _ _ => 0) ⟨#[], #[], []⟩).memory Tryz.f3.params.toList Rows.proofNamesSpec.vars false (#[] : Array Value).toList 8 = some ([], [], places) :=
  ⟨[], by kernel_rfl⟩
set_option maxRecDepth 100000 in
theorem proofNames_lifted (os : Os) (started : os.Started) (H : Type) (enc : TypeId × Value → H) (F : Stop.Interp) :
    ReturnsInHanded {} Tryz.checked os 3 .any ((OpenSpec.ofChange Rows.proofNamesSpec).preRow enc Tryz.prog Tryz.f3 Rows.proofNamesRow.domain false Rows.proofNamesRow.laid) (((OpenSpec.ofChange Rows.proofNamesSpec).at F).post enc Tryz.prog Tryz.f3 false true false false) := by
  obtain ⟨places, hx⟩ := proofNames_reads os enc
  refine returnsInHanded_of_row (C := Tryz.checked) (s := (OpenSpec.ofChange Rows.proofNamesSpec)) proofNames_own started (by kernel_rfl) Tryz.func3
    (witness_row_at (enc := enc) (C := Tryz.checked) false (laidWorld os) #[] rfl (by kernel_rfl) (by kernel_rfl) (by kernel_rfl)
      (OpenSpec.preRow_of_cond 8 hx (by kernel_rfl) (fun k hk => by cases hk) (by kernel_rfl) (proofNames_met os))) ?_
  intro W base args ds gs before hval hW _ hcond hsz hL _ _
  exact proofNames_contract H enc W base args ds gs before hval hW hsz (tab_of hL)

theorem proofNames_said : Rows.ProofNamesSaid :=
  OpenClaim.holds_of_cond 3 Tryz.f3 rfl rfl rfl rfl rfl rfl rfl ⟨rfl, rfl, rfl, rfl, rfl⟩ rfl rfl rfl rfl rfl (by kernel_rfl) Tryz.func3 (by kernel_rfl)
    (of_decide_eq_true (by kernel_rfl)) (by unfold Func.isWrapper; first | (rw [if_pos (by decide +kernel)]; kernel_rfl) | (rw [if_neg (by decide +kernel)]; exact ⟨rfl, rfl⟩))
    (fun os started H enc _ F => by rw [OpenClaim.pre_eq_preRow]; exact proofNames_lifted os started H enc F)
theorem proofNames_plain (f : FuncId) (fn : Func) (hf : Tryz.pinned.checked.prog.funcNamed "catenary/catenarylaw16.ProofNames" = some f) (hfn : Tryz.pinned.checked.prog.funcs[f]? = some fn) :
    true = Tryz.pinned.checked.prog.looks [] ∧ ∀ (j : Nat) t, fn.params[j]? = some t → Tryz.pinned.checked.prog.wantsStandIn t = false := by
  obtain rfl : f = 3 := Option.some.inj ((show Tryz.prog.funcNamed "catenary/catenarylaw16.ProofNames" = some 3 by kernel_rfl).symm.trans hf) |>.symm
  obtain rfl : fn = Tryz.f3 := (Option.some.inj (Tryz.func3.symm.trans hfn)).symm
  refine ⟨by kernel_rfl, fun j t ht => ?_⟩
  rw [Tryz.params3] at ht
  simp at ht
theorem proofNames_proved : Rows.ProofNamesCardSaid :=
  Claim7.holds_tied_plain_at .later [] _ _ _ _ proofNames_said (fun _ h => by cases h) (by kernel_rfl) (fun _ h => by cases h) proofNames_row_tie rfl ⟨rfl, rfl⟩ (by kernel_rfl) rfl proofNames_plain (by kernel_rfl)
#print axioms proofNames_proved
end Go.Proofs.YtgjepofinpmcpaaGreatDoor
