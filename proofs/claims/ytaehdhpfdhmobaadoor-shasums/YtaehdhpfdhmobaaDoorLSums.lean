/- catenarylaw02.ShaSums: its walk. -/
import Derived.Test.YtaehdhpfdhmobaaDoorSAlive
import Derived.Test.YtaehdhpfdhmobaaDoorR4
namespace Go.Proofs.YtaehdhpfdhmobaaDoor
open Go.RowKit Oct Sha

/-- Same, of like texts. -/
theorem same_like (w : World) (u v : Value) (l : List Int) (ha : Rd w u l) (hb : Rd w v l) : Calls Tryd.prog 8 #[u, v] w fun e w' => e = .returned (.bool true) ∧ w' = w := by
  have := same_any w u v l l ha hb
  rwa [decide_eq_true rfl] at this

set_option maxHeartbeats 1000000 in
theorem sums_any (w : World) (v : Value) (l : List Int) (hrd : Rd w v l) (hlen : l.length ≤ 140737488351232) (ht : Tab w) :
    Calls Tryd.prog 4 #[v] w fun e w' => e = .returned (.bool true) ∧ Below w.heap.size w w' := by
  have hbyt := hrd.1
  have le := Nat.le_refl w.heap.size
  go_enter Tryd.func4, Tryd.ntmps4
  go_wp2_with fail
  refine (alive_any w ht).mono ?_
  rintro e w1 ⟨rfl, hb1⟩
  have hrd1 := hrd.below hb1
  go_wp2_with (at_builtin; refine app_copy rfl _ _ rfl rfl v l rfl hrd1 (by omega) ?_; intro own w2 hown hfr hb2)
  have hrd2 := hrd1.below hb2
  have hB2 := below_and hb1 le hb2
  clear hrd1 hb1 hb2 hrd
  refine (sum_any w2 own l (hown.rd hbyt) (ht.below hB2) (by omega)).mono ?_
  rintro e w3 ⟨r1, rfl, hr1, hf1, hb3⟩
  have hrd3 := hrd2.below hb3
  have hown3 := (hown.below hb3).rd hbyt
  have hB3 := below_and hB2 le hb3
  clear hrd2 hown hB2 hb3 hfr hf1
  go_wp2_with fail
  refine (refSum_any w3 v l hrd3 hlen).mono ?_
  rintro e w4 ⟨r2, rfl, hr2, hf2, hb4⟩
  have hrd4 := hrd3.below hb4
  have hown4 := hown3.below hb4
  have hr1' := (hr1.below hb4).rd (shaL_byt l)
  have hr2' := hr2.rd (shaL_byt l)
  have hB4 := below_and hB3 le hb4
  clear hrd3 hown3 hr1 hr2 hB3 hb4 hf2
  go_wp2_with fail
  refine (same_like w4 r1 r2 _ hr1' hr2').mono ?_
  rintro e w5 ⟨rfl, rfl⟩
  go_wp2_with fail
  refine (same_like _ own v _ hown4 hrd4).mono ?_
  rintro e w5 ⟨rfl, rfl⟩
  go_wp2_with fail
  go_ret
  exact ⟨rfl, hB4⟩
end Go.Proofs.YtaehdhpfdhmobaaDoor
