/- PROVED HERE: at all arguments catenarylaw06.VoteUnlike returns true and leaves its arguments as they were (the statement VoteUnlikeUptoCardSaid); under one condition: what comes in holds at most 1048576 values and letters; the table sha.constants is laid by the program text, the card ties it. -/
import Derived.Test.YthnjeglfgfjpkaaDoorRows
import Derived.Test.YthnjeglfgfjpkaaDoorLVUnlike
import Derived.Test.YthnjeglfgfjpkaaDoorOpenV
import Derived.Test.YthnjeglfgfjpkaaDoorWf4
import Derived.Test.YthnjeglfgfjpkaaDoorOpen
import Derived.Test.YthnjeglfgfjpkaaDoorSTab
import Derived.Test.YthnjeglfgfjpkaaDoorCards
import Derived.Test.YthnjeglfgfjpkaaDoorTie
import Derived.Deep.DeepHandedRow
import Derived.Test.YthnjeglfgfjpkaaDoorBulk
import Derived.JoinedCond
namespace Go.Proofs.YthnjeglfgfjpkaaDoor
open Go.ChangeShapes Go.WideShapes Go.ChangeAt Go.RowKit

theorem voteUnlike_own : ownKnob Tryd.prog.godebug = none := by kernel_rfl
theorem voteUnlike_laidOut : laidOutB Tryd.prog = true := by kernel_rfl
theorem voteUnlike_cells5 : Tryd.prog.cellsOf 5 = 1 := by kernel_rfl

theorem voteUnlike_contract (H : Type) (enc : TypeId × Value → H) (W : World) (base : Nat) (args : Array Value) (ds gs : List (DataW H)) (before : List MemPlace)
    (hval : ∀ (j : Nat) t v, Tryd.f6.params[j]? = some t → args[j]? = some v → Value.okWide Tryd.prog W .any base t v)
    (hW : DataW.Whole enc Tryd.prog Tryd.f6.params.toList Rows.voteUnlikeSpec.vars false W args.toList ds gs before) (hk : Rows.uptoSmall H (ds ++ gs) = true)
    (hT : Tab W) :
    Calls Tryd.prog 6 args W fun e W' => ∃ v, e = .returned v ∧ Rows.voteUnlikeSpec.post enc Tryd.prog Tryd.f6 false true false false W args v W' := by
  have hW' := hW
  obtain ⟨p, q, hA0, hV, rfl, hfz, hnd⟩ := hW
  have hA : DataW.TrodAll enc Tryd.prog W 0 (fun _ => true) true Tryd.f6.params.toList args.toList ds p := hA0
  rw [Tryd.params6] at hA hval
  obtain ⟨v0, vs0, d0, ds0, p0, q0, hargs, rfl, rfl, h0, r0⟩ := trodAll_cons hA
  obtain ⟨v1, vs1, d1, ds1, p1, q1, rfl, rfl, rfl, h1, r1⟩ := trodAll_cons r0
  obtain ⟨v2, vs2, d2, ds2, p2, q2, rfl, rfl, rfl, h2, r2⟩ := trodAll_cons r1
  obtain ⟨rfl, rfl, rfl⟩ := trodAll_nil r2
  obtain rfl : args = #[v0, v1, v2] := by cases args; simp_all
  obtain ⟨rfl, rfl⟩ := trodVars_none hV
  simp only [List.append_nil] at hk
  have lt0 : ∀ x ∈ p0, x.block < W.heap.size := by obtain ⟨m, hm⟩ := h0; exact DataW.trod_lt m _ _ _ hm
  obtain ⟨k0, x0, y0, s0, bv0, l0, rfl, hrd0, hb0, hr0⟩ := open_lball (hval 0 27 v0 rfl rfl) h0
  have hlen0 : l0.length ≤ 1048576 := by have := Nat.le_trans hb0 (Nat.le_trans (bulk_part (by simp)) (bulk_all hk)); unfold bT at this; omega
  clear hb0
  have lt1 : ∀ x ∈ p1, x.block < W.heap.size := by obtain ⟨m, hm⟩ := h1; exact DataW.trod_lt m _ _ _ hm
  obtain ⟨k1, x1, y1, s1, bv1, l1, rfl, hrd1, hb1, hr1⟩ := open_lball (hval 1 27 v1 rfl rfl) h1
  have hlen1 : l1.length ≤ 1048576 := by have := Nat.le_trans hb1 (Nat.le_trans (bulk_part (by simp)) (bulk_all hk)); unfold bT at this; omega
  clear hb1
  have lt2 : ∀ x ∈ p2, x.block < W.heap.size := by obtain ⟨m, hm⟩ := h2; exact DataW.trod_lt m _ _ _ hm
  obtain ⟨a2, b2, rfl⟩ := open_ints2 Tryd.underlying41 Tryd.underlying3 (by kernel_rfl) (by kernel_rfl) (hval 2 41 v2 rfl rfl) h2
  clear hA0
  refine (vunlike_any W k0 x0 y0 s0 bv0 l0 k1 x1 y1 s1 bv1 l1 a2 b2 hrd0 hrd1 hlen0 hlen1 (wf_four hr0) (wf_four hr1) hT).mono fun e W' ⟨he, bel⟩ => ?_
  subst he
  exact ⟨_, rfl, _, _, _, [], _, [], hW', trodAll_mk1 (shut_bool Tryd.underlying4 _), (trodAll_cons_mk (Below.trod voteUnlike_laidOut (by kernel_rfl) (of_decide_eq_true (by kernel_rfl)) h0 bel lt0) (trodAll_cons_mk (Below.trod voteUnlike_laidOut (by kernel_rfl) (of_decide_eq_true (by kernel_rfl)) h1 bel lt1) (trodAll_cons_mk (Below.trod voteUnlike_laidOut (by kernel_rfl) (of_decide_eq_true (by kernel_rfl)) h2 bel lt2) trodAll_mk0))), rfl, bel.frame _, fun h => by cases h⟩

theorem voteUnlike_met (os : Os) : laidMet Tryd.prog Rows.voteUnlikeUptoRow.laid ((laidWorld os).forCall (fun _ _ => 0) ⟨#[], #[.agg #[.int .i64 0, .int .i64 0, .int .i64 0, .int .i64 0, .slice none 0 0], .agg #[.int .i64 0, .int .i64 0, .int .i64 0, .int .i64 0, .slice none 0 0], .agg #[.int .i64 0, .int .i64 0]], []⟩).memory :=
  laidMet_of_run' 8 (by kernel_rfl) (by kernel_rfl)
theorem voteUnlike_reads (os : Os) {H : Type} (enc : TypeId × Value → H) : ∃ places, DataW.whole enc Tryd.prog ((laidWorld os).forCall (fun _ _ => 0) ⟨#[], #[.agg #[.int .i64 0, .int .i64 0, .int .i64 0, .int .i64 0, .slice none 0 0], .agg #[.int .i64 0, .int .i64 0, .int .i64 0, .int .i64 0, .slice none 0 0], .agg #[.int .i64 0, .int .i64 0]], []⟩).memory Tryd.f6.params.toList Rows.voteUnlikeSpec.vars false (#[.agg #[.int .i64 0, .int .i64 0, .int .i64 0, .int .i64 0, .slice none 0 0], .agg #[.int .i64 0, .int .i64 0, .int .i64 0, .int .i64 0, .slice none 0 0], .agg #[.int .i64 0, .int .i64 0]] : Array Value).toList 8 = some ([.agg [.lit (.int .i64 0), .agg [.lit (.int .i64 0), .lit (.int .i64 0)], .lit (.int .i64 0), .nil], .agg [.lit (.int .i64 0), .agg [.lit (.int .i64 0), .lit (.int .i64 0)], .lit (.int .i64 0), .nil], .agg [.lit (.int .i64 0), .lit (.int .i64 0)]], [], places) :=
  ⟨[], by kernel_rfl⟩
set_option maxRecDepth 100000 in
theorem voteUnlike_lifted (os : Os) (started : os.Started) (H : Type) (enc : TypeId × Value → H) (F : Stop.Interp) :
    ReturnsInHanded {} Tryd.checked os 6 .any ((Rows.OpenSpec.upto Rows.voteUnlikeSpec).preRow enc Tryd.prog Tryd.f6 Rows.voteUnlikeUptoRow.domain false Rows.voteUnlikeUptoRow.laid) (((Rows.OpenSpec.upto Rows.voteUnlikeSpec).at F).post enc Tryd.prog Tryd.f6 false true false false) := by
  obtain ⟨places, hx⟩ := voteUnlike_reads os enc
  refine returnsInHanded_of_row (C := Tryd.checked) (s := (Rows.OpenSpec.upto Rows.voteUnlikeSpec)) voteUnlike_own started (by kernel_rfl) Tryd.func6
    (witness_row_at (enc := enc) (C := Tryd.checked) false (laidWorld os) #[.agg #[.int .i64 0, .int .i64 0, .int .i64 0, .int .i64 0, .slice none 0 0], .agg #[.int .i64 0, .int .i64 0, .int .i64 0, .int .i64 0, .slice none 0 0], .agg #[.int .i64 0, .int .i64 0]] rfl (by kernel_rfl) (by kernel_rfl) (by kernel_rfl)
      (OpenSpec.preRow_of_cond 8 hx (by kernel_rfl) (fun k hk => by cases hk; kernel_rfl) (by kernel_rfl) (voteUnlike_met os))) ?_
  intro W base args ds gs before hval hW _ hcond hsz hL _ _
  exact voteUnlike_contract H enc W base args ds gs before hval hW (hcond _ rfl) (tab_of hL)

theorem voteUnlike_said : Rows.VoteUnlikeUptoSaid :=
  OpenClaim.holds_of_cond 6 Tryd.f6 rfl rfl rfl rfl rfl rfl rfl ⟨rfl, rfl, rfl, rfl, rfl⟩ rfl rfl rfl rfl rfl (by kernel_rfl) Tryd.func6 (by kernel_rfl)
    (of_decide_eq_true (by kernel_rfl)) (by unfold Func.isWrapper; first | (rw [if_pos (by decide +kernel)]; kernel_rfl) | (rw [if_neg (by decide +kernel)]; exact ⟨rfl, rfl⟩))
    (fun os started H enc _ F => by rw [OpenClaim.pre_eq_preRow]; exact voteUnlike_lifted os started H enc F)
theorem voteUnlike_plain (f : FuncId) (fn : Func) (hf : Tryd.pinned.checked.prog.funcNamed "catenary/catenarylaw06.VoteUnlike" = some f) (hfn : Tryd.pinned.checked.prog.funcs[f]? = some fn) :
    false = Tryd.pinned.checked.prog.looks [] ∧ ∀ (j : Nat) t, fn.params[j]? = some t → Tryd.pinned.checked.prog.wantsStandIn t = false := by
  obtain rfl : f = 6 := Option.some.inj ((show Tryd.prog.funcNamed "catenary/catenarylaw06.VoteUnlike" = some 6 by kernel_rfl).symm.trans hf) |>.symm
  obtain rfl : fn = Tryd.f6 := (Option.some.inj (Tryd.func6.symm.trans hfn)).symm
  refine ⟨by kernel_rfl, fun j t ht => ?_⟩
  rw [Tryd.params6] at ht
  have hm := Array.mem_of_getElem? ht
  simp only [List.mem_toArray, List.mem_cons, List.not_mem_nil, or_false] at hm
  rcases hm with rfl | rfl | rfl
  · exact (show Tryd.prog.wantsStandIn 27 = false by kernel_rfl)
  · exact (show Tryd.prog.wantsStandIn 27 = false by kernel_rfl)
  · exact (show Tryd.prog.wantsStandIn 41 = false by kernel_rfl)
theorem voteUnlike_proved : Rows.VoteUnlikeUptoCardSaid :=
  Claim7.holds_tied_plain_at .later [] _ _ _ _ voteUnlike_said (fun _ h => by cases h) (by kernel_rfl) (fun _ h => by cases h) voteUnlikeUpto_row_tie rfl ⟨rfl, rfl⟩ (by kernel_rfl) rfl voteUnlike_plain (by kernel_rfl)
#print axioms voteUnlike_proved
end Go.Proofs.YthnjeglfgfjpkaaDoor
