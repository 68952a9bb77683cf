/- catenarylaw05.MsgBack. -/
import Derived.Test.YtogifpainhepoaaLMOnly
import Derived.Test.YtogifpainhepoaaC3
set_option linter.unusedVariables false
namespace Go.Proofs.Ytogifpainhepoaa
open Go.RowKit Oct

theorem enc_cases (m : PMsg) : (encE m = 51 ∧ encB m = []) ∨ (encE m = 53 ∧ encB m = []) ∨ (encE m = 0 ∧ badM m = false ∧ encB m = byM m ∧ (byM m).length ≤ 1048576) := by
  cases hb : badM m with
  | true =>
    have e := encE_bad hb
    exact .inl ⟨e, by unfold encB; rw [if_neg (by rw [e]; decide)]⟩
  | false =>
    by_cases hl : 1048576 < (byM m).length
    · have e := encE_many hb hl
      exact .inr (.inl ⟨e, by unfold encB; rw [if_neg (by rw [e]; decide)]⟩)
    · have e := encE_ok hb hl
      exact .inr (.inr ⟨e, rfl, by unfold encB; rw [if_pos e], by omega⟩)
theorem dec_by {m : PMsg} (h : badM m = false) (hl : (byM m).length ≤ 1048576) : decE (byM m) = 0 ∧ decM (byM m) = m := decE_ok (by omega) (rdM_fwd h)

set_option maxRecDepth 10000 in
set_option maxHeartbeats 2000000 in
/-- MsgBack. -/
theorem back_any (w : World) (m : PMsg) (s : SV) (hs : SOk Any w m s) (hz : szM m) : Calls Try.prog 6 #[.agg (mc m s).toArray] w fun e w' => e = .returned (.bool true) ∧ Below w.heap.size w w' := by
  have ra := Row.new w 33 (mc m s)
  have hB0 := below_alloc w (.cells (mc m s).toArray 33)
  obtain ⟨w0, hw0⟩ : ∃ w0, w0 = w.alloc (.cells (mc m s).toArray 33) := ⟨_, rfl⟩
  rw [← hw0] at ra hB0
  go_enter Try.func6, Try.ntmps6
  go_upto_region 1 with fail
  rw [← hw0]
  clear hw0
  go_wp2_with fail
  refine (alive_any w0).mono ?_
  rintro e w1 ⟨rfl, hb1⟩
  have ra1 := ra.below hb1
  have hB1 := below_and hB0 (Nat.le_refl _) hb1
  go_wp2_with (refine wl_load rfl _ _ rfl w.heap.size rfl _ _ ra1 _ Try.underlying33 rfl (by kernel_rfl) ?_)
  refine (copyMsg_any w1 m s (hs.below hB1) hz).mono ?_
  rintro e w2 ⟨s2, rfl, hs2, hb2⟩
  have ra2 := ra1.below hb2
  have hB2 := below_and hB1 (Nat.le_refl _) hb2
  go_wp2_with fail
  refine (encode_any w2 m s2 hs2.any).mono ?_
  rintro e w3 ⟨v3, rfl, hown3, hbyt3, hfr3, hb3⟩
  have ra3 := ra2.below hb3
  have hB3 := below_and hB2 (Nat.le_refl _) hb3
  clear ra ra1 ra2 hB0 hB1 hB2 hb1 hb2 hb3 hs2
  rcases enc_cases m with ⟨he, hb⟩ | ⟨he, hb⟩ | ⟨he, hbad, hb, hlen⟩
  · rw [hb] at hown3
    rw [he]
    obtain ⟨ao, cap, rfl, _⟩ := hown3.form
    clear he hb
    go_wp2_with fail
    go_ret
    exact ⟨rfl, hB3⟩
  · rw [hb] at hown3
    rw [he]
    obtain ⟨ao, cap, rfl, _⟩ := hown3.form
    clear he hb
    go_wp2_with fail
    go_ret
    exact ⟨rfl, hB3⟩
  · rw [hb] at hown3 hbyt3
    rw [he]
    obtain ⟨d1, d2⟩ := dec_by hbad hlen
    have hD := decode_any w3 v3 (byM m) ⟨hown3.rd hbyt3, fun _ _ _ => trivial⟩
    clear he hb
    go_wp2_with fail
    refine hD.mono ?_
    rintro e w4 ⟨s4, rfl, hs4, hb4⟩
    rw [d2] at hs4
    rw [d1, d2]
    have hs4 := hs4.any
    have hone := hs4.one
    have hrow := Row.new w4 33 (mc zeroM sv0)
    have hB4 := below_and hB3 (Nat.le_refl _) hb4
    have ra4 := ra3.below hb4
    clear hD d1 d2 hbad hown3 hbyt3 hfr3 ra3 hlen
    go_wp2_with (first
      | (refine wl_store rfl _ _ _ rfl w4.heap.size (mc m s4) rfl rfl _ _ hrow rfl (by kernel_rfl) hone ?_; intro w5 hr5 hg5; have hb5 : Below w4.heap.size w4 w5 := (below_alloc w4 (.cells (mc zeroM sv0).toArray 33)).trans (grown_below hg5 (by simp) (fun k hk => by cases hk; exact Nat.le_refl _)); have ra5 := ra4.below hb5)
      | (refine wl_load_w (by rfl) _ _ rfl w4.heap.size rfl _ _ hr5.out _ Try.underlying33 rfl (by kernel_rfl) ?_)
      | (refine wl_load_w (by rfl) _ _ rfl w.heap.size rfl _ _ ra5 _ Try.underlying33 rfl (by kernel_rfl) ?_))
    have hB5 := below_and hB4 (Nat.le_refl _) hb5
    refine (sameMsg_eq w5 m s4 s (hs4.below hb5) (hs.below hB5)).mono ?_
    rintro e w6 ⟨rfl, hb6⟩
    go_wp2_with fail
    go_ret
    exact ⟨rfl, below_and hB5 (Nat.le_refl _) hb6⟩
end Go.Proofs.Ytogifpainhepoaa
