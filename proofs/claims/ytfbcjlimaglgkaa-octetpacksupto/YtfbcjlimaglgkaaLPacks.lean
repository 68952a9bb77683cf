/- catenarylaw01.OctetPacks: its walk. -/
import Derived.Test.YtfbcjlimaglgkaaAlive
import Derived.Test.YtfbcjlimaglgkaaW6
namespace Go.Proofs.Ytfbcjlimaglgkaa
open Go.RowKit Oct

set_option maxHeartbeats 800000 in
theorem packs_any (w : World) (v : Value) (ll : List (List Int)) (hv : Rdl w v ll) (ht : tot ll ≤ 1048576) :
    Calls Try.prog 7 #[v] w fun e w' => e = .returned (.bool true) ∧ Below w.heap.size w w' := by
  have le := Nat.le_refl w.heap.size
  have hbyts := hv.byts
  have hpb := packL_byt hbyts (by omega)
  have hpl := packL_len ll
  have hlt := len_tot ll
  have hu := unp_pack ll (by omega)
  have hE : errU (packL ll) = 0 := by unfold errU; rw [hu, if_neg (by simp)]
  have hO : outU (packL ll) = ll := by unfold outU; rw [hu]; rfl
  clear hu
  go_enter Try.func7, Try.ntmps7
  go_wp2_with fail
  refine (alive_any w).mono ?_
  rintro e w1 ⟨rfl, hb1⟩
  have hv1 := hv.below hb1
  clear hv
  go_wp2_with fail
  refine (copy_any w1 v ll hv1 (by omega)).mono ?_
  rintro e w2 ⟨oc, us, rfl, howc, helc, hfrc, hb2⟩
  have hv2 := hv1.below hb2
  have hc2 := helc.rdl howc hbyts
  have hB2 := below_and hb1 le hb2
  clear hv1 howc helc hfrc hb1 hb2
  go_wp2_with fail
  refine (pack_any w2 oc ll hc2 (by omega)).mono ?_
  rintro e w3 ⟨ob, rfl, howb, hfrb, hb3⟩
  have hv3 := hv2.below hb3
  have hc3 := hc2.below hb3
  have hB3 := below_and hB2 le hb3
  have hrb := howb.rd hpb
  clear hv2 hc2 hb3 hB2 hfrb
  go_wp2_with (at_builtin; refine app_copy rfl _ _ rfl rfl ob (packL ll) rfl hrb (by omega) ?_; intro o4 w4 how4 hfr4 hb4)
  have hv4 := hv3.below hb4
  have hc4 := hc3.below hb4
  have hrb4 := hrb.below hb4
  have hB4 := below_and hB3 le hb4
  have hU := unpack_any w4 o4 (packL ll) (how4.rd hpb) (by omega)
  rw [hE, hO] at hU
  clear hv3 hc3 hb4 hB3 hfr4 hrb how4 hE hO howb
  refine hU.mono ?_
  rintro e w5 ⟨ok, uk, rfl, howk, helk, hfrk, hb5⟩
  have hv5 := hv4.below hb5
  have hc5 := hc4.below hb5
  have hrb5 := hrb4.below hb5
  have hk5 := helk.rdl howk hbyts
  have hB5 := below_and hB4 le hb5
  clear hU hv4 hc4 hb5 hB4 hrb4 hfrk howk helk
  go_wp2_with fail
  refine (refPack_any w5 v ll hv5 (by omega)).mono ?_
  rintro e w6 ⟨oq, rfl, howq, hfrq, hb6⟩
  have hv6 := hv5.below hb6
  have hc6 := hc5.below hb6
  have hk6 := hk5.below hb6
  have hB6 := below_and hB5 le hb6
  have hS := same_any w6 ob oq _ _ (hrb5.below hb6) (howq.rd hpb)
  rw [decide_eq_true rfl] at hS
  clear hv5 hc5 hk5 hb6 hB5 hrb5 hfrq howq
  go_wp2_with fail
  refine hS.mono ?_
  rintro e w7 ⟨rfl, rfl⟩
  clear hS
  have hS1 := sameList_any w7 ok v ll ll hk6 hv6 (by omega)
  rw [decide_eq_true rfl] at hS1
  go_wp2_with fail
  refine hS1.mono ?_
  rintro e w8 ⟨rfl, hb8⟩
  have hS2 := sameList_any w8 oc v ll ll (hc6.below hb8) (hv6.below hb8) (by omega)
  rw [decide_eq_true rfl] at hS2
  have hB8 := below_and hB6 le hb8
  clear hS1 hv6 hc6 hk6 hb8 hB6
  go_wp2_with fail
  refine hS2.mono ?_
  rintro e w9 ⟨rfl, hb9⟩
  have hB9 := below_and hB8 le hb9
  clear hS2 hb9 hB8
  go_wp2_with fail
  go_ret
  exact ⟨rfl, hB9⟩
end Go.Proofs.Ytfbcjlimaglgkaa
