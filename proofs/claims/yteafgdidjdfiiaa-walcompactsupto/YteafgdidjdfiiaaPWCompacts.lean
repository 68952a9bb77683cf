/- PROVED HERE: at all arguments catenarylaw12.WalCompacts returns true and leaves its arguments as they were (the statement WalCompactsUptoSaid); under one condition: what comes in holds at most 1048576 values and letters. -/
import Derived.Test.YteafgdidjdfiiaaRows
import Derived.Test.YteafgdidjdfiiaaLWCompacts
import Derived.Test.YteafgdidjdfiiaaOpen
import Derived.Test.YteafgdidjdfiiaaBulk
import Derived.JoinedCond
namespace Go.Proofs.Yteafgdidjdfiiaa
open Go.ChangeShapes Go.WideShapes Go.ChangeAt Go.RowKit

theorem walCompacts_own : ownKnob Try.prog.godebug = none := by kernel_rfl
theorem walCompacts_laidOut : laidOutB Try.prog = true := by kernel_rfl
theorem walCompacts_cells5 : Try.prog.cellsOf 5 = 1 := by kernel_rfl
theorem walCompacts_cells23 : Try.prog.cellsOf 22 = 1 := by kernel_rfl

theorem walCompacts_contract (H : Type) (enc : TypeId × Value → H) (W : World) (base : Nat) (args : Array Value) (ds gs : List (DataW H)) (before : List MemPlace)
    (hval : ∀ (j : Nat) t v, Try.f6.params[j]? = some t → args[j]? = some v → Value.okWide Try.prog W .any base t v)
    (hW : DataW.Whole enc Try.prog Try.f6.params.toList Rows.walCompactsSpec.vars false W args.toList ds gs before) (hk : Rows.uptoSmall H (ds ++ gs) = true) :
    Calls Try.prog 6 args W fun e W' => ∃ v, e = .returned v ∧ Rows.walCompactsSpec.post enc Try.prog Try.f6 false true false false W args v W' := by
  have hW' := hW
  obtain ⟨p, q, hA0, hV, rfl, hfz, hnd⟩ := hW
  have hA : DataW.TrodAll enc Try.prog W 0 (fun _ => true) true Try.f6.params.toList args.toList ds p := hA0
  rw [Try.params6] at hA hval
  obtain ⟨v0, vs0, d0, ds0, p0, q0, hargs, rfl, rfl, h0, r0⟩ := trodAll_cons hA
  obtain ⟨v1, vs1, d1, ds1, p1, q1, rfl, rfl, rfl, h1, r1⟩ := trodAll_cons r0
  obtain ⟨v2, vs2, d2, ds2, p2, q2, rfl, rfl, rfl, h2, r2⟩ := trodAll_cons r1
  obtain ⟨rfl, rfl, rfl⟩ := trodAll_nil r2
  obtain rfl : args = #[v0, v1, v2] := by cases args; simp_all
  obtain ⟨rfl, rfl⟩ := trodVars_none hV
  simp only [List.append_nil] at hk
  obtain ⟨a0, len0, cap0, rfl⟩ := okWide_slice Try.underlying24 (hval 0 24 v0 rfl rfl)
  have lt0 : ∀ x ∈ p0, x.block < W.heap.size := by obtain ⟨m, hm⟩ := h0; exact DataW.trod_lt m _ _ _ hm
  obtain ⟨l0, hrd0, hd0⟩ := open_bytess Try.underlying24 Try.underlying22 Try.underlying5 walCompacts_cells23 walCompacts_cells5 h0
  have hlen0 := bulk_bytess_in hk hd0 (by simp)
  obtain ⟨a1, len1, cap1, rfl⟩ := okWide_slice Try.underlying24 (hval 1 24 v1 rfl rfl)
  have lt1 : ∀ x ∈ p1, x.block < W.heap.size := by obtain ⟨m, hm⟩ := h1; exact DataW.trod_lt m _ _ _ hm
  obtain ⟨l1, hrd1, hd1⟩ := open_bytess Try.underlying24 Try.underlying22 Try.underlying5 walCompacts_cells23 walCompacts_cells5 h1
  have hlen1 := bulk_bytess_in hk hd1 (by simp)
  obtain ⟨b2, rfl, rfl, rfl⟩ := Go.RowKit.open_bool Try.underlying4 (hval 2 4 v2 rfl rfl) h2
  clear hA0
  refine (compactsW_any W _ _ l0 l1 b2 hrd0 hrd1 hlen0 hlen1).mono fun e W' ⟨he, bel⟩ => ?_
  subst he
  exact ⟨_, rfl, _, _, _, [], _, [], hW', trodAll_mk1 (shut_bool Try.underlying4 _), (trodAll_cons_mk (Below.trod walCompacts_laidOut (by kernel_rfl) (of_decide_eq_true (by kernel_rfl)) h0 bel lt0) (trodAll_cons_mk (Below.trod walCompacts_laidOut (by kernel_rfl) (of_decide_eq_true (by kernel_rfl)) h1 bel lt1) (trodAll_cons_mk (shut_bool Try.underlying4 _) trodAll_mk0))), rfl, bel.frame _, fun h => by cases h⟩

set_option maxRecDepth 100000 in
theorem walCompacts_lifted (os : Os) (started : os.Started) (H : Type) (enc : TypeId × Value → H) (F : Stop.Interp) :
    ReturnsInHanded {} Try.checked os 6 .any ((Rows.OpenSpec.upto Rows.walCompactsSpec).pre6 enc Try.prog Try.f6 Rows.walCompactsUptoRow.domain false) (((Rows.OpenSpec.upto Rows.walCompactsSpec).at F).post enc Try.prog Try.f6 false true false false) := by
  refine returnsInHanded_of_cond (C := Try.checked) (s := Rows.OpenSpec.upto Rows.walCompactsSpec) (k := Rows.uptoSmall) rfl walCompacts_own started (by kernel_rfl) Try.func6
    (OpenSpec.witness (enc := enc) (C := Try.checked) (s := Rows.OpenSpec.upto Rows.walCompactsSpec) (k := Rows.uptoSmall) rfl false ⟨#[], #[.slice none 0 0, .slice none 0 0, .bool false], []⟩ 8 (by kernel_rfl) (by kernel_rfl) (by kernel_rfl)
      (x := ([.nil, .nil, .lit (.bool false)], [], [])) (by kernel_rfl) rfl (by kernel_rfl)) ?_
  intro W base args ds gs before hval hW _ hk _
  exact walCompacts_contract H enc W base args ds gs before hval hW hk

theorem walCompacts_proved : Rows.WalCompactsUptoSaid :=
  OpenClaim.holds_of_cond 6 Try.f6 rfl rfl rfl rfl rfl rfl rfl ⟨rfl, rfl, rfl, rfl, rfl⟩ rfl rfl rfl rfl rfl (by kernel_rfl) Try.func6 (by kernel_rfl)
    (of_decide_eq_true (by kernel_rfl)) (by unfold Func.isWrapper; first | (rw [if_pos (by decide +kernel)]; kernel_rfl) | (rw [if_neg (by decide +kernel)]; exact ⟨rfl, rfl⟩))
    (fun os started H enc _ F => walCompacts_lifted os started H enc F)
#print axioms walCompacts_proved
end Go.Proofs.Yteafgdidjdfiiaa
