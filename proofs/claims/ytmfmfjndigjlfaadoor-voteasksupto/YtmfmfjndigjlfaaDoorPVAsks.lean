/- PROVED HERE: at all arguments catenarylaw06.VoteAsks returns true and leaves its arguments as they were (the statement VoteAsksUptoCardSaid); under one condition: what comes in holds at most 1048576 values and letters; the table sha.constants is laid by the program text, the card ties it. -/
import Derived.Test.YtmfmfjndigjlfaaDoorRows
import Derived.Test.YtmfmfjndigjlfaaDoorLVAsks
import Derived.Test.YtmfmfjndigjlfaaDoorOpenV
import Derived.Test.YtmfmfjndigjlfaaDoorOpen
import Derived.Test.YtmfmfjndigjlfaaDoorSTab
import Derived.Test.YtmfmfjndigjlfaaDoorCards
import Derived.Test.YtmfmfjndigjlfaaDoorTie
import Derived.Deep.DeepHandedRow
import Derived.Test.YtmfmfjndigjlfaaDoorBulk
import Derived.JoinedCond
namespace Go.Proofs.YtmfmfjndigjlfaaDoor
open Go.ChangeShapes Go.WideShapes Go.ChangeAt Go.RowKit

theorem voteAsks_own : ownKnob Tryd.prog.godebug = none := by kernel_rfl
theorem voteAsks_laidOut : laidOutB Tryd.prog = true := by kernel_rfl
theorem voteAsks_cells5 : Tryd.prog.cellsOf 5 = 1 := by kernel_rfl

set_option maxRecDepth 100000 in
theorem voteAsks_contract (H : Type) (enc : TypeId × Value → H) (W : World) (base : Nat) (args : Array Value) (ds gs : List (DataW H)) (before : List MemPlace)
    (hval : ∀ (j : Nat) t v, Tryd.f4.params[j]? = some t → args[j]? = some v → Value.okWide Tryd.prog W .any base t v)
    (hW : DataW.Whole enc Tryd.prog Tryd.f4.params.toList Rows.voteAsksSpec.vars false W args.toList ds gs before) (hk : Rows.uptoSmall H (ds ++ gs) = true)
    (hT : Tab W) :
    Calls Tryd.prog 4 args W fun e W' => ∃ v, e = .returned v ∧ Rows.voteAsksSpec.post enc Tryd.prog Tryd.f4 false true false false W args v W' := by
  have hW' := hW
  obtain ⟨p, q, hA0, hV, rfl, hfz, hnd⟩ := hW
  have hA : DataW.TrodAll enc Tryd.prog W 0 (fun _ => true) true Tryd.f4.params.toList args.toList ds p := hA0
  rw [Tryd.params4] at hA hval
  obtain ⟨v0, vs0, d0, ds0, p0, q0, hargs, rfl, rfl, h0, r0⟩ := trodAll_cons hA
  obtain ⟨rfl, rfl, rfl⟩ := trodAll_nil r0
  obtain rfl : args = #[v0] := by cases args; simp_all
  obtain ⟨rfl, rfl⟩ := trodVars_none hV
  simp only [List.append_nil] at hk
  have lt0 : ∀ x ∈ p0, x.block < W.heap.size := by obtain ⟨m, hm⟩ := h0; exact DataW.trod_lt m _ _ _ hm
  obtain ⟨c0, x0, rfl, hrd0, hb0, hz0, hr0, hq0⟩ := open_req (hval 0 35 v0 rfl rfl) h0
  have hlen0 := Nat.le_trans hb0 (Nat.le_trans (bulk_part (by simp)) (bulk_all hk))
  clear hb0 hz0
  clear hA0
  refine (asks_any W c0 x0 hrd0 (by unfold bQ bT at hlen0; omega) (by unfold bQ bT at hlen0; omega) hT).mono fun e W' ⟨he, bel⟩ => ?_
  subst he
  exact ⟨_, rfl, _, _, _, [], _, [], hW', trodAll_mk1 (shut_bool Tryd.underlying4 _), (trodAll_cons_mk (Below.trod voteAsks_laidOut (by kernel_rfl) (of_decide_eq_true (by kernel_rfl)) h0 bel lt0) trodAll_mk0), rfl, bel.frame _, fun h => by cases h⟩

theorem voteAsks_met (os : Os) : laidMet Tryd.prog Rows.voteAsksUptoRow.laid ((laidWorld os).forCall (fun _ _ => 0) ⟨#[], #[.agg #[.int .i64 0, .int .i64 0, .slice none 0 0, .slice none 0 0]], []⟩).memory :=
  laidMet_of_run' 8 (by kernel_rfl) (by kernel_rfl)
theorem voteAsks_reads (os : Os) {H : Type} (enc : TypeId × Value → H) : ∃ places, DataW.whole enc Tryd.prog ((laidWorld os).forCall (fun _ _ => 0) ⟨#[], #[.agg #[.int .i64 0, .int .i64 0, .slice none 0 0, .slice none 0 0]], []⟩).memory Tryd.f4.params.toList Rows.voteAsksSpec.vars false (#[.agg #[.int .i64 0, .int .i64 0, .slice none 0 0, .slice none 0 0]] : Array Value).toList 8 = some ([.agg [.lit (.int .i64 0), .lit (.int .i64 0), .nil, .nil]], [], places) :=
  ⟨[], by kernel_rfl⟩
set_option maxRecDepth 100000 in
theorem voteAsks_lifted (os : Os) (started : os.Started) (H : Type) (enc : TypeId × Value → H) (F : Stop.Interp) :
    ReturnsInHanded {} Tryd.checked os 4 .any ((Rows.OpenSpec.upto Rows.voteAsksSpec).preRow enc Tryd.prog Tryd.f4 Rows.voteAsksUptoRow.domain false Rows.voteAsksUptoRow.laid) (((Rows.OpenSpec.upto Rows.voteAsksSpec).at F).post enc Tryd.prog Tryd.f4 false true false false) := by
  obtain ⟨places, hx⟩ := voteAsks_reads os enc
  refine returnsInHanded_of_row (C := Tryd.checked) (s := (Rows.OpenSpec.upto Rows.voteAsksSpec)) voteAsks_own started (by kernel_rfl) Tryd.func4
    (witness_row_at (enc := enc) (C := Tryd.checked) false (laidWorld os) #[.agg #[.int .i64 0, .int .i64 0, .slice none 0 0, .slice none 0 0]] rfl (by kernel_rfl) (by kernel_rfl) (by kernel_rfl)
      (OpenSpec.preRow_of_cond 8 hx (by kernel_rfl) (fun k hk => by cases hk; kernel_rfl) (by kernel_rfl) (voteAsks_met os))) ?_
  intro W base args ds gs before hval hW _ hcond hsz hL _ _
  exact voteAsks_contract H enc W base args ds gs before hval hW (hcond _ rfl) (tab_of hL)

theorem voteAsks_said : Rows.VoteAsksUptoSaid :=
  OpenClaim.holds_of_cond 4 Tryd.f4 rfl rfl rfl rfl rfl rfl rfl ⟨rfl, rfl, rfl, rfl, rfl⟩ rfl rfl rfl rfl rfl (by kernel_rfl) Tryd.func4 (by kernel_rfl)
    (of_decide_eq_true (by kernel_rfl)) (by unfold Func.isWrapper; first | (rw [if_pos (by decide +kernel)]; kernel_rfl) | (rw [if_neg (by decide +kernel)]; exact ⟨rfl, rfl⟩))
    (fun os started H enc _ F => by rw [OpenClaim.pre_eq_preRow]; exact voteAsks_lifted os started H enc F)
theorem voteAsks_plain (f : FuncId) (fn : Func) (hf : Tryd.pinned.checked.prog.funcNamed "catenary/catenarylaw06.VoteAsks" = some f) (hfn : Tryd.pinned.checked.prog.funcs[f]? = some fn) :
    false = Tryd.pinned.checked.prog.looks [] ∧ ∀ (j : Nat) t, fn.params[j]? = some t → Tryd.pinned.checked.prog.wantsStandIn t = false := by
  obtain rfl : f = 4 := Option.some.inj ((show Tryd.prog.funcNamed "catenary/catenarylaw06.VoteAsks" = some 4 by kernel_rfl).symm.trans hf) |>.symm
  obtain rfl : fn = Tryd.f4 := (Option.some.inj (Tryd.func4.symm.trans hfn)).symm
  refine ⟨by kernel_rfl, fun j t ht => ?_⟩
  rw [Tryd.params4] at ht
  have hm := Array.mem_of_getElem? ht
  simp only [List.mem_toArray, List.mem_cons, List.not_mem_nil, or_false] at hm
  subst hm
  exact (show Tryd.prog.wantsStandIn 35 = false by kernel_rfl)
theorem voteAsks_proved : Rows.VoteAsksUptoCardSaid :=
  Claim7.holds_tied_plain_at .later [] _ _ _ _ voteAsks_said (fun _ h => by cases h) (by kernel_rfl) (fun _ h => by cases h) voteAsksUpto_row_tie rfl ⟨rfl, rfl⟩ (by kernel_rfl) rfl voteAsks_plain (by kernel_rfl)
#print axioms voteAsks_proved
end Go.Proofs.YtmfmfjndigjlfaaDoor
