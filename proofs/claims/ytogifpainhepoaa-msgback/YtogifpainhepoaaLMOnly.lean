/- catenarylaw05.MsgOnly. -/
import Derived.Test.YtogifpainhepoaaMAlive
import Derived.Test.YtogifpainhepoaaS3
set_option linter.unusedVariables false
namespace Go.Proofs.Ytogifpainhepoaa
open Go.RowKit Oct

theorem decE_cases (l : List Int) (hb : Byt l) : (decE l ≠ 0 ∧ decM l = zeroM) ∨ (decE l = 0 ∧ badM (decM l) = false ∧ byM (decM l) = l ∧ l.length ≤ 1048576) := by
  by_cases hl : 1048576 < l.length
  · obtain ⟨e1, e2⟩ := decE_many hl
    exact .inl ⟨by rw [e1]; decide, e2⟩
  · cases hr : rdM l with
    | none =>
      obtain ⟨e1, e2⟩ := decE_bad hl hr
      exact .inl ⟨by rw [e1]; decide, e2⟩
    | some m =>
      obtain ⟨e1, e2⟩ := decE_ok hl hr
      obtain ⟨h1, h2⟩ := rdM_bwd hb hr
      exact .inr ⟨e1, by rw [e2]; exact h1, by rw [e2]; exact h2, by omega⟩
theorem encode_back {m : PMsg} {l : List Int} (h1 : badM m = false) (h2 : byM m = l) (h3 : l.length ≤ 1048576) : encE m = 0 ∧ encB m = l := by
  have e := encE_ok h1 (by rw [h2]; omega)
  exact ⟨e, by unfold encB; rw [if_pos e, h2]⟩
theorem SOk.any {B : Nat} {w : World} {m : PMsg} {s : SV} (h : SOk (From B) w m s) : SOk Any w m s := h.mv (Nat.le_refl _) Mv.any
theorem zok (w : World) : SOk Any w zeroM sv0 := SOk.zero _ _ 0

set_option maxRecDepth 10000 in
set_option maxHeartbeats 2000000 in
/-- MsgOnly. -/
theorem only_any (w : World) (bv : Value) (l : List Int) (hrd : Rd w bv l) (hl : l.length ≤ 140737488355328) : Calls Try.prog 7 #[bv] w fun e w' => e = .returned (.bool true) ∧ Below w.heap.size w w' := by
  have hbyt := hrd.1
  obtain ⟨ao, cap, rfl, hcap⟩ := hrd.2.form
  rw [bc_len] at hrd ⊢
  go_enter Try.func7, Try.ntmps7
  go_wp2_with fail
  refine (alive_any w).mono ?_
  rintro e w1 ⟨rfl, hB1⟩
  have hr1 := hrd.below hB1
  go_wp2_with (at_builtin; refine app_copy rfl _ _ rfl rfl _ l rfl hr1 hl ?_; intro v2 w2 hown2 hfr2 hb2)
  have hB2 := below_and hB1 (Nat.le_refl _) hb2
  refine (decode_any w2 v2 l ⟨hown2.rd hbyt, fun _ _ _ => trivial⟩).mono ?_
  rintro e w3 ⟨s3, rfl, hs3, hb3⟩
  have hB3 := below_and hB2 (Nat.le_refl _) hb3
  have hs3 := hs3.any
  have hone := hs3.one
  have hrow := Row.new w3 33 (mc zeroM sv0)
  have hr3 := hrd.below hB3
  clear hrd hr1 hown2 hfr2 hb2 hb3 hB1 hB2
  rcases decE_cases l hbyt with ⟨he, hm⟩ | ⟨he, hbad, hby, hlen⟩
  · have hne : (decE l != 0) = true := by simpa using he
    rw [hm] at hs3 hone ⊢
    clear hm he
    have hbm := build_msg
    go_wp2_with (first
      | (refine wl_store rfl _ _ _ rfl w3.heap.size (mc zeroM s3) rfl rfl _ _ hrow rfl (by kernel_rfl) hone ?_; intro w4 hr4 hg4)
      | (refine wl_load rfl _ _ rfl w3.heap.size rfl _ _ hr4.out _ Try.underlying33 rfl (by kernel_rfl) ?_))
    have hb4 : Below w3.heap.size w3 w4 := (below_alloc w3 (.cells (mc zeroM sv0).toArray 33)).trans (grown_below hg4 (by simp) (fun k hk => by cases hk; exact Nat.le_refl _))
    refine (sameMsg_eq w4 zeroM s3 sv0 (hs3.below hb4) (zok w4)).mono ?_
    rintro e w5 ⟨rfl, hb5⟩
    go_wp2_with fail
    go_ret
    exact ⟨rfl, below_and (below_and hB3 (Nat.le_refl _) hb4) (Nat.le_refl _) hb5⟩
  · have hne : (decE l != 0) = false := by simpa using he
    obtain ⟨hE, hBb⟩ := encode_back hbad hby hlen
    generalize decM l = m at *
    clear hbad hby he
    go_wp2_with (first
      | (refine wl_store rfl _ _ _ rfl w3.heap.size (mc m s3) rfl rfl _ _ hrow rfl (by kernel_rfl) hone ?_; intro w4 hr4 hg4)
      | (refine wl_load rfl _ _ rfl w3.heap.size rfl _ _ hr4.out _ Try.underlying33 rfl (by kernel_rfl) ?_))
    have hb4 : Below w3.heap.size w3 w4 := (below_alloc w3 (.cells (mc zeroM sv0).toArray 33)).trans (grown_below hg4 (by simp) (fun k hk => by cases hk; exact Nat.le_refl _))
    refine (encode_any w4 m s3 (hs3.below hb4)).mono ?_
    rintro e w5 ⟨v5, rfl, hown5, hbyt5, hfr5, hb5⟩
    rw [hBb] at hown5
    rw [hE]
    have hb35 := below_and hb4 (Nat.le_refl _) hb5
    have hS := same_eq_any w5 v5 _ l (hown5.rd hbyt) (hr3.below hb35)
    clear hr4 hg4 hE hBb
    go_wp2_with fail
    refine hS.mono ?_
    rintro e w6 ⟨rfl, rfl⟩
    go_wp2_with fail
    go_ret
    exact ⟨rfl, below_and hB3 (Nat.le_refl _) hb35⟩
end Go.Proofs.Ytogifpainhepoaa
