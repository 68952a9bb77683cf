/- catenarylaw01.OctetInts: its walk. -/
import Derived.Test.YtfbcjlimaglgkaaAlive
import Derived.Test.YtfbcjlimaglgkaaW2
namespace Go.Proofs.Ytfbcjlimaglgkaa
open Go.RowKit Oct

set_option maxHeartbeats 400000 in
theorem ints_any (w : World) (n : Int) (v : Value) (l : List Int) (p : Int) (hrd : Rd w v l) (hlen : l.length ≤ 140737488351232) :
    Calls Try.prog 4 #[.int .i64 n, v, .int .i64 p] w fun e w' => e = .returned (.bool true) ∧ Below w.heap.size w w' := by
  have hbyt := hrd.1
  have le := Nat.le_refl w.heap.size
  go_enter Try.func4, Try.ntmps4
  go_wp2_with fail
  refine (alive_any w).mono ?_
  rintro e w1 ⟨rfl, hb1⟩
  have hrd1 := hrd.below hb1
  clear hrd
  go_wp2_with (at_builtin; refine app_copy rfl _ _ rfl rfl v l rfl hrd1 (by omega) ?_; intro own w2 hown hfr hb2)
  have hrd2 := hrd1.below hb2
  have hb2' := below_and hb1 le hb2
  clear hrd1 hb1 hb2
  refine (int_any w2 n).mono ?_
  rintro e w3 ⟨ip, rfl, hip, hf3, hb3⟩
  have hrd3 := hrd2.below hb3
  have hown3 := hown.below hb3
  have hb3' := below_and hb2' le hb3
  clear hrd2 hown hb2' hb3
  go_wp2_with fail
  refine (refInt_any w3 n).mono ?_
  rintro e w4 ⟨iq, rfl, hiq, hf4, hb4⟩
  have hrd4 := hrd3.below hb4
  have hown4 := (hown3.below hb4).rd hbyt
  have hip4 := (hip.below hb4).rd (outI_byt n)
  have hiq4 := hiq.rd (outI_byt n)
  have hb4' := below_and hb3' le hb4
  clear hrd3 hown3 hb3' hb4 hip hiq hf3 hf4 hfr
  go_wp2_with fail
  refine (getInt_any w4 own l p hown4 (by omega)).mono ?_
  rintro e w5 ⟨rfl, rfl⟩
  go_wp2_with fail
  refine (refGetInt_any _ v l p hrd4 (by omega)).mono ?_
  rintro e w6 ⟨rfl, hb6⟩
  have hs1 := same_any w6 ip iq _ _ (hip4.below hb6) (hiq4.below hb6)
  have hs2 := same_any w6 own v _ _ (hown4.below hb6) (hrd4.below hb6)
  rw [decide_eq_true rfl] at hs1 hs2
  have hb6' := below_and hb4' le hb6
  clear hrd4 hown4 hb4' hb6 hip4 hiq4
  have H1 := (show Hid (∀ _ : Unit, _) from fun _ => hs1)
  have H2 := (show Hid (∀ _ : Unit, _) from fun _ => hs2)
  clear hs1 hs2
  go_wp2_with fail
  refine (H1.out ()).mono ?_
  rintro e w7 ⟨rfl, rfl⟩
  go_wp2_with fail
  refine (H2.out ()).mono ?_
  rintro e w7 ⟨rfl, rfl⟩
  go_wp2_with fail
  go_ret
  exact ⟨rfl, hb6'⟩
end Go.Proofs.Ytfbcjlimaglgkaa
