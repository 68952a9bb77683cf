/- catenarylaw01.OctetUnpacks: its walk. -/
import Derived.Test.YtfbcjlimaglgkaaAlive
import Derived.Test.YtfbcjlimaglgkaaW6
namespace Go.Proofs.Ytfbcjlimaglgkaa
open Go.RowKit Oct

theorem outU_byts (l : List Int) (hb : Byt l) : Byts (outU l) ∧ tot (outU l) ≤ l.length := by
  unfold outU
  cases h : unp l with
  | none => exact ⟨fun x hx => (by simp at hx), by simp [tot]⟩
  | some ll => obtain ⟨_, h1, h2⟩ := unp_some hb h; exact ⟨h1, h2⟩
theorem errU_or (l : List Int) (hb : Byt l) : errU l = 11 ∨ (errU l = 0 ∧ packL (outU l) = l) := by
  unfold errU outU
  cases h : unp l with
  | none => left; simp
  | some ll => right; obtain ⟨h1, _, _⟩ := unp_some hb h; exact ⟨by simp, h1⟩

set_option maxHeartbeats 800000 in
theorem unpacks_any (w : World) (v : Value) (l : List Int) (hv : Rd w v l) (hl : l.length ≤ 1048576) :
    Calls Try.prog 8 #[v] w fun e w' => e = .returned (.bool true) ∧ Below w.heap.size w w' := by
  have le := Nat.le_refl w.heap.size
  have hbyt := hv.1
  obtain ⟨hby, hto⟩ := outU_byts l hbyt
  have hlt := len_tot (outU l)
  have hor := (show Hid (errU l = 11 ∨ (errU l = 0 ∧ packL (outU l) = l)) from errU_or l hbyt)
  go_enter Try.func8, Try.ntmps8
  go_wp2_with fail
  refine (alive_any w).mono ?_
  rintro e w1 ⟨rfl, hb1⟩
  have hv1 := hv.below hb1
  clear hv
  go_wp2_with (at_builtin; refine app_copy rfl _ _ rfl rfl v l rfl hv1 (by omega) ?_; intro o2 w2 how2 hfr2 hb2)
  have hv2 := hv1.below hb2
  have hB2 := below_and hb1 le hb2
  clear hv1 hb1 hb2 hfr2
  refine (unpack_any w2 o2 l (how2.rd hbyt) (by omega)).mono ?_
  rintro e w3 ⟨o3, us, rfl, how3, hel3, hfr3, hb3⟩
  have hv3 := hv2.below hb3
  have hr3 := hel3.rdl how3 hby
  have hB3 := below_and hB2 le hb3
  clear hv2 how2 how3 hel3 hfr3 hb3 hB2
  go_wp2_with fail
  refine (refUnpack_any w3 v l hv3 (by omega)).mono ?_
  rintro e w4 ⟨o4, us4, rfl, how4, hel4, hfr4, hb4⟩
  have hv4 := hv3.below hb4
  have hr4 := hr3.below hb4
  have hq4 := hel4.rdl how4 hby
  have hB4 := below_and hB3 le hb4
  clear hv3 hr3 how4 hel4 hfr4 hb4 hB3
  have hS1 := sameList_any w4 o3 o4 (outU l) (outU l) hr4 hq4 (by omega)
  rw [decide_eq_true rfl] at hS1
  have HS1 := (show Hid (∀ _ : Unit, _) from fun _ => hS1)
  clear hS1
  rcases hor.out with h11 | ⟨h0, hpk⟩
  · rw [h11]
    clear hor h11
    go_wp2_with fail
    refine (HS1.out ()).mono ?_
    rintro e w5 ⟨rfl, hb5⟩
    have hB5 := below_and hB4 le hb5
    clear HS1
    go_wp2_with fail
    go_ret
    exact ⟨rfl, hB5⟩
  · rw [h0]
    clear hor h0
    go_wp2_with fail
    refine (HS1.out ()).mono ?_
    rintro e w5 ⟨rfl, hb5⟩
    have hB5 := below_and hB4 le hb5
    have hr5 := hr4.below hb5
    have hv5 := hv4.below hb5
    clear HS1 hr4 hq4 hv4 hb5 hB4
    have hP := pack_any w5 o3 (outU l) hr5 (by omega)
    rw [hpk] at hP
    have HP := (show Hid (∀ _ : Unit, _) from fun _ => hP)
    clear hP hpk
    go_wp2_with fail
    refine (HP.out ()).mono ?_
    rintro e w6 ⟨o6, rfl, how6, hfr6, hb6⟩
    have hS := same_any w6 o6 v l l (how6.rd hbyt) (hv5.below hb6)
    rw [decide_eq_true rfl] at hS
    have hB6 := below_and hB5 le hb6
    clear HP how6 hfr6 hb6 hB5 hr5 hv5
    go_wp2_with fail
    refine hS.mono ?_
    rintro e w7 ⟨rfl, rfl⟩
    clear hS
    go_wp2_with fail
    go_ret
    exact ⟨rfl, hB6⟩
end Go.Proofs.Ytfbcjlimaglgkaa
