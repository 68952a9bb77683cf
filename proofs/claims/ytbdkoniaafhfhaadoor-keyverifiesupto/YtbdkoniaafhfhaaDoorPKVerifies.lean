/- PROVED HERE: at all arguments catenarylaw03.KeyVerifies returns true and leaves its arguments as they were (the statement KeyVerifiesUptoCardSaid); under one condition: what comes in holds at most 1048576 values and letters; the table sha.constants is laid by the program text, the card ties it. -/
import Derived.Test.YtbdkoniaafhfhaaDoorRows
import Derived.Test.YtbdkoniaafhfhaaDoorLKVerifies
import Derived.Test.YtbdkoniaafhfhaaDoorOpen
import Derived.Test.YtbdkoniaafhfhaaDoorSTab
import Derived.Test.YtbdkoniaafhfhaaDoorCards
import Derived.Test.YtbdkoniaafhfhaaDoorTie
import Derived.Deep.DeepHandedRow
import Derived.Test.YtbdkoniaafhfhaaDoorBulk
import Derived.JoinedCond
namespace Go.Proofs.YtbdkoniaafhfhaaDoor
open Go.ChangeShapes Go.WideShapes Go.ChangeAt Go.RowKit

theorem keyVerifies_own : ownKnob Tryd.prog.godebug = none := by kernel_rfl
theorem keyVerifies_laidOut : laidOutB Tryd.prog = true := by kernel_rfl
theorem keyVerifies_cells5 : Tryd.prog.cellsOf 5 = 1 := by kernel_rfl
theorem keyVerifies_cells23 : Tryd.prog.cellsOf 26 = 1 := by kernel_rfl

theorem keyVerifies_contract (H : Type) (enc : TypeId × Value → H) (W : World) (base : Nat) (args : Array Value) (ds gs : List (DataW H)) (before : List MemPlace)
    (hval : ∀ (j : Nat) t v, Tryd.f6.params[j]? = some t → args[j]? = some v → Value.okWide Tryd.prog W .any base t v)
    (hW : DataW.Whole enc Tryd.prog Tryd.f6.params.toList Rows.keyVerifiesSpec.vars false W args.toList ds gs before) (hk : Rows.uptoSmall H (ds ++ gs) = true)
    (hT : Tab W) :
    Calls Tryd.prog 6 args W fun e W' => ∃ v, e = .returned v ∧ Rows.keyVerifiesSpec.post enc Tryd.prog Tryd.f6 false true false false W args v W' := by
  have hW' := hW
  obtain ⟨p, q, hA0, hV, rfl, hfz, hnd⟩ := hW
  have hA : DataW.TrodAll enc Tryd.prog W 0 (fun _ => true) true Tryd.f6.params.toList args.toList ds p := hA0
  rw [Tryd.params6] at hA hval
  obtain ⟨v0, vs0, d0, ds0, p0, q0, hargs, rfl, rfl, h0, r0⟩ := trodAll_cons hA
  obtain ⟨v1, vs1, d1, ds1, p1, q1, rfl, rfl, rfl, h1, r1⟩ := trodAll_cons r0
  obtain ⟨v2, vs2, d2, ds2, p2, q2, rfl, rfl, rfl, h2, r2⟩ := trodAll_cons r1
  obtain ⟨rfl, rfl, rfl⟩ := trodAll_nil r2
  obtain rfl : args = #[v0, v1, v2] := by cases args; simp_all
  obtain ⟨rfl, rfl⟩ := trodVars_none hV
  simp only [List.append_nil] at hk
  obtain ⟨a0, rfl, rfl, rfl, w0⟩ := open_int Tryd.underlying3 (hval 0 3 v0 rfl rfl) h0
  obtain ⟨a1, len1, cap1, rfl⟩ := okWide_slice Tryd.underlying26 (hval 1 26 v1 rfl rfl)
  have lt1 : ∀ x ∈ p1, x.block < W.heap.size := by obtain ⟨m, hm⟩ := h1; exact DataW.trod_lt m _ _ _ hm
  obtain ⟨l1, hrd1, hd1⟩ := open_bytes Tryd.underlying26 Tryd.underlying5 keyVerifies_cells5 h1
  have hlen1 := bulk_bytes_in hk hd1 (by simp)
  obtain ⟨a2, len2, cap2, rfl⟩ := okWide_slice Tryd.underlying24 (hval 2 24 v2 rfl rfl)
  have lt2 : ∀ x ∈ p2, x.block < W.heap.size := by obtain ⟨m, hm⟩ := h2; exact DataW.trod_lt m _ _ _ hm
  obtain ⟨l2, hrd2, hd2⟩ := open_bytess Tryd.underlying24 Tryd.underlying26 Tryd.underlying5 keyVerifies_cells23 keyVerifies_cells5 h2
  have hlen2 := bulk_bytess_in hk hd2 (by simp)
  clear hA0
  refine (verifies_any W a0 _ l1 _ l2 hrd1 hrd2 hlen1 hlen2 hT).mono fun e W' ⟨he, bel⟩ => ?_
  subst he
  exact ⟨_, rfl, _, _, _, [], _, [], hW', trodAll_mk1 (shut_bool Tryd.underlying4 _), (trodAll_cons_mk (shut_int Tryd.underlying3 w0) (trodAll_cons_mk (Below.trod keyVerifies_laidOut (by kernel_rfl) (of_decide_eq_true (by kernel_rfl)) h1 bel lt1) (trodAll_cons_mk (Below.trod keyVerifies_laidOut (by kernel_rfl) (of_decide_eq_true (by kernel_rfl)) h2 bel lt2) trodAll_mk0))), rfl, bel.frame _, fun h => by cases h⟩

theorem keyVerifies_met (os : Os) : laidMet Tryd.prog Rows.keyVerifiesUptoRow.laid ((laidWorld os).forCall (fun _ _ => 0) ⟨#[], #[.int .i64 0, .slice none 0 0, .slice none 0 0], []⟩).memory :=
  laidMet_of_run' 8 (by kernel_rfl) (by kernel_rfl)
theorem keyVerifies_reads (os : Os) {H : Type} (enc : TypeId × Value → H) : ∃ places, DataW.whole enc Tryd.prog ((laidWorld os).forCall (fun _ _ => 0) ⟨#[], #[.int .i64 0, .slice none 0 0, .slice none 0 0], []⟩).memory Tryd.f6.params.toList Rows.keyVerifiesSpec.vars false (#[.int .i64 0, .slice none 0 0, .slice none 0 0] : Array Value).toList 8 = some ([.lit (.int .i64 0), .nil, .nil], [], places) :=
  ⟨[], by kernel_rfl⟩
set_option maxRecDepth 100000 in
theorem keyVerifies_lifted (os : Os) (started : os.Started) (H : Type) (enc : TypeId × Value → H) (F : Stop.Interp) :
    ReturnsInHanded {} Tryd.checked os 6 .any ((Rows.OpenSpec.upto Rows.keyVerifiesSpec).preRow enc Tryd.prog Tryd.f6 Rows.keyVerifiesUptoRow.domain false Rows.keyVerifiesUptoRow.laid) (((Rows.OpenSpec.upto Rows.keyVerifiesSpec).at F).post enc Tryd.prog Tryd.f6 false true false false) := by
  obtain ⟨places, hx⟩ := keyVerifies_reads os enc
  refine returnsInHanded_of_row (C := Tryd.checked) (s := (Rows.OpenSpec.upto Rows.keyVerifiesSpec)) keyVerifies_own started (by kernel_rfl) Tryd.func6
    (witness_row_at (enc := enc) (C := Tryd.checked) false (laidWorld os) #[.int .i64 0, .slice none 0 0, .slice none 0 0] rfl (by kernel_rfl) (by kernel_rfl) (by kernel_rfl)
      (OpenSpec.preRow_of_cond 8 hx (by kernel_rfl) (fun k hk => by cases hk; kernel_rfl) (by kernel_rfl) (keyVerifies_met os))) ?_
  intro W base args ds gs before hval hW _ hcond hsz hL _ _
  exact keyVerifies_contract H enc W base args ds gs before hval hW (hcond _ rfl) (tab_of hL)

theorem keyVerifies_said : Rows.KeyVerifiesUptoSaid :=
  OpenClaim.holds_of_cond 6 Tryd.f6 rfl rfl rfl rfl rfl rfl rfl ⟨rfl, rfl, rfl, rfl, rfl⟩ rfl rfl rfl rfl rfl (by kernel_rfl) Tryd.func6 (by kernel_rfl)
    (of_decide_eq_true (by kernel_rfl)) (by unfold Func.isWrapper; first | (rw [if_pos (by decide +kernel)]; kernel_rfl) | (rw [if_neg (by decide +kernel)]; exact ⟨rfl, rfl⟩))
    (fun os started H enc _ F => by rw [OpenClaim.pre_eq_preRow]; exact keyVerifies_lifted os started H enc F)
theorem keyVerifies_plain (f : FuncId) (fn : Func) (hf : Tryd.pinned.checked.prog.funcNamed "catenary/catenarylaw03.KeyVerifies" = some f) (hfn : Tryd.pinned.checked.prog.funcs[f]? = some fn) :
    false = Tryd.pinned.checked.prog.looks [] ∧ ∀ (j : Nat) t, fn.params[j]? = some t → Tryd.pinned.checked.prog.wantsStandIn t = false := by
  obtain rfl : f = 6 := Option.some.inj ((show Tryd.prog.funcNamed "catenary/catenarylaw03.KeyVerifies" = some 6 by kernel_rfl).symm.trans hf) |>.symm
  obtain rfl : fn = Tryd.f6 := (Option.some.inj (Tryd.func6.symm.trans hfn)).symm
  refine ⟨by kernel_rfl, fun j t ht => ?_⟩
  rw [Tryd.params6] at ht
  have hm := Array.mem_of_getElem? ht
  simp only [List.mem_toArray, List.mem_cons, List.not_mem_nil, or_false] at hm
  rcases hm with rfl | rfl | rfl
  · exact (show Tryd.prog.wantsStandIn 3 = false by kernel_rfl)
  · exact (show Tryd.prog.wantsStandIn 26 = false by kernel_rfl)
  · exact (show Tryd.prog.wantsStandIn 24 = false by kernel_rfl)
theorem keyVerifies_proved : Rows.KeyVerifiesUptoCardSaid :=
  Claim7.holds_tied_plain_at .later [] _ _ _ _ keyVerifies_said (fun _ h => by cases h) (by kernel_rfl) (fun _ h => by cases h) keyVerifiesUpto_row_tie rfl ⟨rfl, rfl⟩ (by kernel_rfl) rfl keyVerifies_plain (by kernel_rfl)
#print axioms keyVerifies_proved
end Go.Proofs.YtbdkoniaafhfhaaDoor
