/- Package proof: Make. -/
import Derived.Test.YtgjepofinpmcpaaGreatDoorSBW
import Derived.Test.YtgjepofinpmcpaaGreatDoorSBH
set_option linter.unusedSimpArgs false
set_option linter.unusedVariables false
namespace Go.Proofs.YtgjepofinpmcpaaGreatDoor
open Go.RowKit Oct Kvl
def mkL (m : PMsg) : Bool := decide (encE m = 0) && chkL (encB m) 16
def mkB (m : PMsg) : List Int := if mkL m = true then encB m else []
def mkE (m : PMsg) : Int := if mkL m = true then 0 else 161
theorem mk_no {m : PMsg} (h : mkL m = false) : mkB m = [] ∧ mkE m = 161 := by unfold mkB mkE; rw [h]; exact ⟨rfl, rfl⟩
theorem mk_yes {m : PMsg} (h : mkL m = true) : mkB m = encB m ∧ mkE m = 0 := by unfold mkB mkE; rw [h]; exact ⟨rfl, rfl⟩
/-- What Make answers. -/
def MkP (m : PMsg) (w : World) (e : Ending) (w' : World) : Prop := ∃ v, e = .returned (.tuple #[v, .int .i64 (mkE m)]) ∧ RT Any w' v (mkB m) ∧ Below w.heap.size w w'
theorem MkP.no {m : PMsg} {w w' : World} (h : mkL m = false) (hb : Below w.heap.size w w') : MkP m w (.returned (.tuple #[.slice none 0 0, .int .i64 161])) w' := by
  obtain ⟨h1, h2⟩ := mk_no h
  exact ⟨_, by rw [h2], by rw [h1]; exact RT.nil _ _, hb⟩
set_option maxRecDepth 10000 in
set_option maxHeartbeats 4000000 in
/-- proof.Make. -/
theorem make_any (w : World) (m : PMsg) (s : SV) (hs : SOk Any w m s) (hT : Tab w) : Calls Tryz.prog 12 #[.agg (mc m s).toArray] w (MkP m w) := by
  obtain ⟨w1, hw1, r1, B1⟩ := boxP w m s
  have HE := encode_any w1 m s (hs.below B1)
  have HL := (show Hid (mkL m = (decide (encE m = 0) && chkL (encB m) 16)) from rfl)
  have HCE := (show Hid (chkE (encB m) 16 = if chkL (encB m) 16 = true then 0 else 161) from rfl)
  have HY := (show Hid (mkL m = true → mkB m = encB m ∧ mkE m = 0) from mk_yes)
  go_enter Tryz.func12, Tryz.ntmps12
  go_upto_region 1 with fail
  rw [← hw1]
  clear hw1
  go_upto_region 2 with (first
    | (refine wl_load rfl _ _ rfl w.heap.size rfl _ _ r1 _ Tryz.underlying40 rfl (by kernel_rfl) ?_)
    | (go_at_call 28; refine HE.mono ?_; rintro e w2 ⟨v2, rfl, o2, y2, f2, b2⟩))
  have B2 := below_and B1 (Nat.le_refl _) b2
  have R2 : RT Any w2 v2 (encB m) := ⟨o2.rd y2, fun _ _ _ => trivial⟩
  have HC := check_any w2 v2 (encB m) R2 16 (hT.below B2)
  clear HE r1 B1 b2 o2 y2 f2 hT hs
  by_cases h0 : encE m = 0
  case neg =>
    have hN : mkL m = false := by rw [HL.out, decide_eq_false h0]; rfl
    have h0' : (encE m != 0) = true := by simpa using h0
    have HP := (show Hid (MkP m w (.returned (.tuple #[.slice none 0 0, .int .i64 161])) w2) from MkP.no hN B2)
    generalize encE m = E at *
    clear HC HL HCE HY hN R2
    go_wp2_with fail
    go_ret2
    exact HP.out
  rw [decide_eq_true h0, Bool.true_and] at HL
  rw [h0]
  clear h0
  cases hK : chkL (encB m) 16 with
  | false =>
    have hN : mkL m = false := by rw [HL.out, hK]
    have HP := (show Hid (∀ w', Below w.heap.size w w' → MkP m w (.returned (.tuple #[.slice none 0 0, .int .i64 161])) w') from fun w' => MkP.no hN)
    unfold CkP at HC
    rw [(chk_no hK).1, (chk_no hK).2] at HC
    clear HL HCE HY hN R2 hK
    go_wp2_with (go_at_call 9; refine HC.mono ?_; rintro e w3 ⟨rfl, b3⟩)
    go_ret2
    exact HP.out _ (below_and B2 (Nat.le_refl _) b3)
  | true =>
    have hN : mkL m = true := by rw [HL.out, hK]
    have hY := HY.out hN
    have HP := (show Hid (∀ w', Below w2.heap.size w2 w' → MkP m w (.returned (.tuple #[v2, .int .i64 0])) w') from fun w' hb => ⟨v2, by rw [hY.2], by rw [hY.1]; exact R2.mv (Mv.below hb), below_and B2 (Nat.le_refl _) hb⟩)
    unfold CkP at HC
    rw [(chk_yes hK).2] at HC
    generalize chkW (encB m) 16 = W1 at *
    clear HL HCE HY hN R2 hK hY
    go_wp2_with (go_at_call 9; refine HC.mono ?_; rintro e w3 ⟨rfl, b3⟩)
    go_ret2
    exact HP.out _ b3
end Go.Proofs.YtgjepofinpmcpaaGreatDoor
