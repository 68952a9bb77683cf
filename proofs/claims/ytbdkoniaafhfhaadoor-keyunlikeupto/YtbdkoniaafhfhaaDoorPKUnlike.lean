/- PROVED HERE: at all arguments catenarylaw03.KeyUnlike returns true and leaves its arguments as they were (the statement KeyUnlikeUptoCardSaid); under one condition: what comes in holds at most 1048576 values and letters; the table sha.constants is laid by the program text, the card ties it. -/
import Derived.Test.YtbdkoniaafhfhaaDoorRows
import Derived.Test.YtbdkoniaafhfhaaDoorLKUnlike
import Derived.Test.YtbdkoniaafhfhaaDoorOpen
import Derived.Test.YtbdkoniaafhfhaaDoorSTab
import Derived.Test.YtbdkoniaafhfhaaDoorCards
import Derived.Test.YtbdkoniaafhfhaaDoorTie
import Derived.Deep.DeepHandedRow
import Derived.Test.YtbdkoniaafhfhaaDoorBulk
import Derived.JoinedCond
import Derived.Test.YtbdkoniaafhfhaaDoorOpen2
namespace Go.Proofs.YtbdkoniaafhfhaaDoor
open Go.ChangeShapes Go.WideShapes Go.ChangeAt Go.RowKit

theorem keyUnlike_own : ownKnob Tryd.prog.godebug = none := by kernel_rfl
theorem keyUnlike_laidOut : laidOutB Tryd.prog = true := by kernel_rfl
theorem keyUnlike_cells5 : Tryd.prog.cellsOf 5 = 1 := by kernel_rfl
theorem keyUnlike_cells23 : Tryd.prog.cellsOf 26 = 1 := by kernel_rfl

theorem keyUnlike_contract (H : Type) (enc : TypeId × Value → H) (W : World) (base : Nat) (args : Array Value) (ds gs : List (DataW H)) (before : List MemPlace)
    (hval : ∀ (j : Nat) t v, Tryd.f7.params[j]? = some t → args[j]? = some v → Value.okWide Tryd.prog W .any base t v)
    (hW : DataW.Whole enc Tryd.prog Tryd.f7.params.toList Rows.keyUnlikeSpec.vars false W args.toList ds gs before) (hk : Rows.uptoSmall H (ds ++ gs) = true)
    (hT : Tab W) :
    Calls Tryd.prog 7 args W fun e W' => ∃ v, e = .returned v ∧ Rows.keyUnlikeSpec.post enc Tryd.prog Tryd.f7 false true false false W args v W' := by
  have hW' := hW
  obtain ⟨p, q, hA0, hV, rfl, hfz, hnd⟩ := hW
  have hA : DataW.TrodAll enc Tryd.prog W 0 (fun _ => true) true Tryd.f7.params.toList args.toList ds p := hA0
  rw [Tryd.params7] at hA hval
  obtain ⟨v0, vs0, d0, ds0, p0, q0, hargs, rfl, rfl, h0, r0⟩ := trodAll_cons hA
  obtain ⟨v1, vs1, d1, ds1, p1, q1, rfl, rfl, rfl, h1, r1⟩ := trodAll_cons r0
  obtain ⟨v2, vs2, d2, ds2, p2, q2, rfl, rfl, rfl, h2, r2⟩ := trodAll_cons r1
  obtain ⟨rfl, rfl, rfl⟩ := trodAll_nil r2
  obtain rfl : args = #[v0, v1, v2] := by cases args; simp_all
  obtain ⟨rfl, rfl⟩ := trodVars_none hV
  simp only [List.append_nil] at hk
  have lt0 : ∀ x ∈ p0, x.block < W.heap.size := by obtain ⟨m, hm⟩ := h0; exact DataW.trod_lt m _ _ _ hm
  obtain ⟨a0, b0, rfl⟩ := open_ints2 Tryd.underlying38 Tryd.underlying3 (by kernel_rfl) (by kernel_rfl) (hval 0 38 v0 rfl rfl) h0
  have lt1 : ∀ x ∈ p1, x.block < W.heap.size := by obtain ⟨m, hm⟩ := h1; exact DataW.trod_lt m _ _ _ hm
  obtain ⟨a1, b1, rfl, rfl⟩ := open_strs2 Tryd.underlying39 Tryd.underlying9 (by kernel_rfl) (by kernel_rfl) (hval 1 39 v1 rfl rfl) h1
  have hlen1 := bulk_strs2_in hk (s0 := a1) (s1 := b1) (by simp)
  have lt2 : ∀ x ∈ p2, x.block < W.heap.size := by obtain ⟨m, hm⟩ := h2; exact DataW.trod_lt m _ _ _ hm
  obtain ⟨a2, b2, da2, db2, la2, lb2, rfl, rfl, ra2, rb2, ha2, hb2⟩ := open_bytess2 Tryd.underlying40 Tryd.underlying24 Tryd.underlying26 Tryd.underlying5 (by kernel_rfl) keyUnlike_cells23 keyUnlike_cells5 (by kernel_rfl) (hval 2 40 v2 rfl rfl) h2
  have hlen2 := bulk_bytess2_in hk ha2 hb2 (by simp)
  clear hA0
  refine (unlike_any W a0 b0 a1 b1 a2 b2 la2 lb2 ra2 rb2 hlen1.1 hlen1.2 hlen2.1 hlen2.2 hT).mono fun e W' ⟨he, bel⟩ => ?_
  subst he
  exact ⟨_, rfl, _, _, _, [], _, [], hW', trodAll_mk1 (shut_bool Tryd.underlying4 _), (trodAll_cons_mk (Below.trod keyUnlike_laidOut (by kernel_rfl) (of_decide_eq_true (by kernel_rfl)) h0 bel lt0) (trodAll_cons_mk (Below.trod keyUnlike_laidOut (by kernel_rfl) (of_decide_eq_true (by kernel_rfl)) h1 bel lt1) (trodAll_cons_mk (Below.trod keyUnlike_laidOut (by kernel_rfl) (of_decide_eq_true (by kernel_rfl)) h2 bel lt2) trodAll_mk0))), rfl, bel.frame _, fun h => by cases h⟩

theorem keyUnlike_met (os : Os) : laidMet Tryd.prog Rows.keyUnlikeUptoRow.laid ((laidWorld os).forCall (fun _ _ => 0) ⟨#[], #[.agg #[.int .i64 0, .int .i64 0], .agg #[.string ⟨#[]⟩, .string ⟨#[]⟩], .agg #[.slice none 0 0, .slice none 0 0]], []⟩).memory :=
  laidMet_of_run' 8 (by kernel_rfl) (by kernel_rfl)
theorem keyUnlike_reads (os : Os) {H : Type} (enc : TypeId × Value → H) : ∃ places, DataW.whole enc Tryd.prog ((laidWorld os).forCall (fun _ _ => 0) ⟨#[], #[.agg #[.int .i64 0, .int .i64 0], .agg #[.string ⟨#[]⟩, .string ⟨#[]⟩], .agg #[.slice none 0 0, .slice none 0 0]], []⟩).memory Tryd.f7.params.toList Rows.keyUnlikeSpec.vars false (#[.agg #[.int .i64 0, .int .i64 0], .agg #[.string ⟨#[]⟩, .string ⟨#[]⟩], .agg #[.slice none 0 0, .slice none 0 0]] : Array Value).toList 8 = some ([.agg [.lit (.int .i64 0), .lit (.int .i64 0)], .agg [.lit (.string []), .lit (.string [])], .agg [.nil, .nil]], [], places) :=
  ⟨[], by kernel_rfl⟩
set_option maxRecDepth 100000 in
theorem keyUnlike_lifted (os : Os) (started : os.Started) (H : Type) (enc : TypeId × Value → H) (F : Stop.Interp) :
    ReturnsInHanded {} Tryd.checked os 7 .any ((Rows.OpenSpec.upto Rows.keyUnlikeSpec).preRow enc Tryd.prog Tryd.f7 Rows.keyUnlikeUptoRow.domain false Rows.keyUnlikeUptoRow.laid) (((Rows.OpenSpec.upto Rows.keyUnlikeSpec).at F).post enc Tryd.prog Tryd.f7 false true false false) := by
  obtain ⟨places, hx⟩ := keyUnlike_reads os enc
  refine returnsInHanded_of_row (C := Tryd.checked) (s := (Rows.OpenSpec.upto Rows.keyUnlikeSpec)) keyUnlike_own started (by kernel_rfl) Tryd.func7
    (witness_row_at (enc := enc) (C := Tryd.checked) false (laidWorld os) #[.agg #[.int .i64 0, .int .i64 0], .agg #[.string ⟨#[]⟩, .string ⟨#[]⟩], .agg #[.slice none 0 0, .slice none 0 0]] rfl (by kernel_rfl) (by kernel_rfl) (by kernel_rfl)
      (OpenSpec.preRow_of_cond 8 hx (by kernel_rfl) (fun k hk => by cases hk; kernel_rfl) (by kernel_rfl) (keyUnlike_met os))) ?_
  intro W base args ds gs before hval hW _ hcond hsz hL _ _
  exact keyUnlike_contract H enc W base args ds gs before hval hW (hcond _ rfl) (tab_of hL)

theorem keyUnlike_said : Rows.KeyUnlikeUptoSaid :=
  OpenClaim.holds_of_cond 7 Tryd.f7 rfl rfl rfl rfl rfl rfl rfl ⟨rfl, rfl, rfl, rfl, rfl⟩ rfl rfl rfl rfl rfl (by kernel_rfl) Tryd.func7 (by kernel_rfl)
    (of_decide_eq_true (by kernel_rfl)) (by unfold Func.isWrapper; first | (rw [if_pos (by decide +kernel)]; kernel_rfl) | (rw [if_neg (by decide +kernel)]; exact ⟨rfl, rfl⟩))
    (fun os started H enc _ F => by rw [OpenClaim.pre_eq_preRow]; exact keyUnlike_lifted os started H enc F)
theorem keyUnlike_plain (f : FuncId) (fn : Func) (hf : Tryd.pinned.checked.prog.funcNamed "catenary/catenarylaw03.KeyUnlike" = some f) (hfn : Tryd.pinned.checked.prog.funcs[f]? = some fn) :
    false = Tryd.pinned.checked.prog.looks [] ∧ ∀ (j : Nat) t, fn.params[j]? = some t → Tryd.pinned.checked.prog.wantsStandIn t = false := by
  obtain rfl : f = 7 := Option.some.inj ((show Tryd.prog.funcNamed "catenary/catenarylaw03.KeyUnlike" = some 7 by kernel_rfl).symm.trans hf) |>.symm
  obtain rfl : fn = Tryd.f7 := (Option.some.inj (Tryd.func7.symm.trans hfn)).symm
  refine ⟨by kernel_rfl, fun j t ht => ?_⟩
  rw [Tryd.params7] at ht
  have hm := Array.mem_of_getElem? ht
  simp only [List.mem_toArray, List.mem_cons, List.not_mem_nil, or_false] at hm
  rcases hm with rfl | rfl | rfl
  · exact (show Tryd.prog.wantsStandIn 38 = false by kernel_rfl)
  · exact (show Tryd.prog.wantsStandIn 39 = false by kernel_rfl)
  · exact (show Tryd.prog.wantsStandIn 40 = false by kernel_rfl)
theorem keyUnlike_proved : Rows.KeyUnlikeUptoCardSaid :=
  Claim7.holds_tied_plain_at .later [] _ _ _ _ keyUnlike_said (fun _ h => by cases h) (by kernel_rfl) (fun _ h => by cases h) keyUnlikeUpto_row_tie rfl ⟨rfl, rfl⟩ (by kernel_rfl) rfl keyUnlike_plain (by kernel_rfl)
#print axioms keyUnlike_proved
end Go.Proofs.YtbdkoniaafhfhaaDoor
