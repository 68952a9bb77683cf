/- PROVED HERE: at all arguments catenarylaw06.VoteNames returns true and leaves its arguments as they were (the statement VoteNamesCardSaid); no condition; the table sha.constants is laid by the program text, the card ties it. -/
import Derived.Test.YthnjeglfgfjpkaaDoorRows
import Derived.Test.YthnjeglfgfjpkaaDoorLVNames
import Derived.Test.YthnjeglfgfjpkaaDoorOpen
import Derived.Test.YthnjeglfgfjpkaaDoorSTab
import Derived.Test.YthnjeglfgfjpkaaDoorCards
import Derived.Test.YthnjeglfgfjpkaaDoorTie
import Derived.Deep.DeepHandedRow
namespace Go.Proofs.YthnjeglfgfjpkaaDoor
open Go.ChangeShapes Go.WideShapes Go.ChangeAt Go.RowKit

theorem voteNames_own : ownKnob Tryd.prog.godebug = none := by kernel_rfl
theorem voteNames_laidOut : laidOutB Tryd.prog = true := by kernel_rfl
theorem voteNames_cells5 : Tryd.prog.cellsOf 5 = 1 := by kernel_rfl
theorem voteNames_bytes5 : Tryd.prog.bytesOf 5 = 1 := by kernel_rfl

theorem voteNames_contract (H : Type) (enc : TypeId × Value → H) (W : World) (base : Nat) (args : Array Value) (ds gs : List (DataW H)) (before : List MemPlace)
    (hval : ∀ (j : Nat) t v, Tryd.f3.params[j]? = some t → args[j]? = some v → Value.okWide Tryd.prog W .any base t v)
    (hW : DataW.Whole enc Tryd.prog Tryd.f3.params.toList Rows.voteNamesSpec.vars false W args.toList ds gs before)
    (hsz : (DataW.weightsEach Tryd.prog (Tryd.f3.params.toList ++ Rows.voteNamesSpec.plain.varTypes Tryd.prog) (ds ++ gs)).all (· ≤ reachBytes) = true)
    (hT : Tab W) :
    Calls Tryd.prog 3 args W fun e W' => ∃ v, e = .returned v ∧ Rows.voteNamesSpec.post enc Tryd.prog Tryd.f3 false true false false W args v W' := by
  have hW' := hW
  obtain ⟨p, q, hA0, hV, rfl, hfz, hnd⟩ := hW
  have hA : DataW.TrodAll enc Tryd.prog W 0 (fun _ => true) true Tryd.f3.params.toList args.toList ds p := hA0
  rw [Tryd.params3] at hA hval hsz
  obtain ⟨rfl, rfl, rfl⟩ := trodAll_none hA
  obtain ⟨rfl, rfl⟩ := trodVars_none hV
  clear hA0
  refine (vnames_any W    hT).mono fun e W' ⟨he, bel⟩ => ?_
  subst he
  exact ⟨_, rfl, _, _, _, [], _, [], hW', trodAll_mk1 (shut_bool Tryd.underlying4 _), trodAll_mk0, rfl, bel.frame _, fun h => by cases h⟩

theorem voteNames_met (os : Os) : laidMet Tryd.prog Rows.voteNamesRow.laid ((laidWorld os).forCall (fun _ _ => 0) ⟨#[], #[], []⟩).memory :=
  laidMet_of_run' 8 (by kernel_rfl) (by kernel_rfl)
theorem voteNames_reads (os : Os) {H : Type} (enc : TypeId × Value → H) : ∃ places, DataW.whole enc Tryd.prog ((laidWorld os).forCall (fun _ _ => 0) ⟨#[], #[], []⟩).memory Tryd.f3.params.toList Rows.voteNamesSpec.vars false (#[] : Array Value).toList 8 = some ([], [], places) :=
  ⟨[], by kernel_rfl⟩
set_option maxRecDepth 100000 in
theorem voteNames_lifted (os : Os) (started : os.Started) (H : Type) (enc : TypeId × Value → H) (F : Stop.Interp) :
    ReturnsInHanded {} Tryd.checked os 3 .any ((OpenSpec.ofChange Rows.voteNamesSpec).preRow enc Tryd.prog Tryd.f3 Rows.voteNamesRow.domain false Rows.voteNamesRow.laid) (((OpenSpec.ofChange Rows.voteNamesSpec).at F).post enc Tryd.prog Tryd.f3 false true false false) := by
  obtain ⟨places, hx⟩ := voteNames_reads os enc
  refine returnsInHanded_of_row (C := Tryd.checked) (s := (OpenSpec.ofChange Rows.voteNamesSpec)) voteNames_own started (by kernel_rfl) Tryd.func3
    (witness_row_at (enc := enc) (C := Tryd.checked) false (laidWorld os) #[] rfl (by kernel_rfl) (by kernel_rfl) (by kernel_rfl)
      (OpenSpec.preRow_of_cond 8 hx (by kernel_rfl) (fun k hk => by cases hk) (by kernel_rfl) (voteNames_met os))) ?_
  intro W base args ds gs before hval hW _ hcond hsz hL _ _
  exact voteNames_contract H enc W base args ds gs before hval hW hsz (tab_of hL)

theorem voteNames_said : Rows.VoteNamesSaid :=
  OpenClaim.holds_of_cond 3 Tryd.f3 rfl rfl rfl rfl rfl rfl rfl ⟨rfl, rfl, rfl, rfl, rfl⟩ rfl rfl rfl rfl rfl (by kernel_rfl) Tryd.func3 (by kernel_rfl)
    (of_decide_eq_true (by kernel_rfl)) (by unfold Func.isWrapper; first | (rw [if_pos (by decide +kernel)]; kernel_rfl) | (rw [if_neg (by decide +kernel)]; exact ⟨rfl, rfl⟩))
    (fun os started H enc _ F => by rw [OpenClaim.pre_eq_preRow]; exact voteNames_lifted os started H enc F)
theorem voteNames_plain (f : FuncId) (fn : Func) (hf : Tryd.pinned.checked.prog.funcNamed "catenary/catenarylaw06.VoteNames" = some f) (hfn : Tryd.pinned.checked.prog.funcs[f]? = some fn) :
    false = Tryd.pinned.checked.prog.looks [] ∧ ∀ (j : Nat) t, fn.params[j]? = some t → Tryd.pinned.checked.prog.wantsStandIn t = false := by
  obtain rfl : f = 3 := Option.some.inj ((show Tryd.prog.funcNamed "catenary/catenarylaw06.VoteNames" = some 3 by kernel_rfl).symm.trans hf) |>.symm
  obtain rfl : fn = Tryd.f3 := (Option.some.inj (Tryd.func3.symm.trans hfn)).symm
  refine ⟨by kernel_rfl, fun j t ht => ?_⟩
  rw [Tryd.params3] at ht
  simp at ht
theorem voteNames_proved : Rows.VoteNamesCardSaid :=
  Claim7.holds_tied_plain_at .later [] _ _ _ _ voteNames_said (fun _ h => by cases h) (by kernel_rfl) (fun _ h => by cases h) voteNames_row_tie rfl ⟨rfl, rfl⟩ (by kernel_rfl) rfl voteNames_plain (by kernel_rfl)
#print axioms voteNames_proved
end Go.Proofs.YthnjeglfgfjpkaaDoor
