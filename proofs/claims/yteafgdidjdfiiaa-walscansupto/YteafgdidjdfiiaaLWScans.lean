/- catenarylaw12.WalScans: its walk. -/
import Derived.Test.YteafgdidjdfiiaaWAl
set_option linter.unusedVariables false
namespace Go.Proofs.Yteafgdidjdfiiaa
open Go.RowKit Oct

set_option maxRecDepth 10000 in
set_option maxHeartbeats 1000000 in
theorem scansW_any (w : World) (v : Value) (l : List Int) (hv : Rd w v l) (hl : l.length ≤ 10000000) :
    Calls Try.prog 3 #[v] w fun e w' => e = .returned (.bool true) ∧ Below w.heap.size w w' := by
  obtain ⟨ao, cap, rfl, hc⟩ := hv.form
  have le := Nat.le_refl w.heap.size
  have hby := hv.1
  obtain ⟨N, hN⟩ : ∃ N, N = l.length := ⟨_, rfl⟩
  have HL := (show Hid (l.length ≤ 10000000) from hl)
  rw [← hN] at hv ⊢
  obtain ⟨S, hS⟩ : ∃ S, S = (scn l).2 := ⟨_, rfl⟩
  obtain ⟨L, hL⟩ : ∃ L, L = (scn l).1 := ⟨_, rfl⟩
  have hLb : Byts L := by rw [hL]; exact (scn_take hby).2.2.1
  have HLn := (show Hid (L.length ≤ 1000000000) by
    show _ ≤ _
    have h1 := (scn_take hby).2.2.2
    have h2 := (scn_take hby).1
    have h3 := len_tot (scn l).1
    rw [hL]
    omega)
  have HS1 := (show Hid (∀ u o, Own u 5 o (bc l) → Calls Try.prog 8 #[o] u fun e w' => ∃ v' us, e = .returned (.tuple #[v', .int .i64 (S : Int)]) ∧ Own w' 22 v' us ∧ Els w' us L ∧ Below u.heap.size u w') from fun u o ho => by
    refine (scan_any u o l (ho.rd hby) (by have := HL.out; omega)).mono ?_
    rw [← hS, ← hL]
    rintro e w' ⟨v', us, e1, e2, e3, _, e5, _⟩
    exact ⟨v', us, e1, e2, e3, e5⟩)
  have HS2 := (show Hid (∀ u, Below w.heap.size w u → Calls Try.prog 9 #[.slice ao N cap] u fun e w' => ∃ v' us, e = .returned (.tuple #[v', .int .i64 (S : Int)]) ∧ Own w' 22 v' us ∧ Els w' us L ∧ Below u.heap.size u w') from fun u hu => by
    refine (refScan_any u _ l (hv.below hu) (by have := HL.out; omega)).mono ?_
    rw [← hS, ← hL]
    rintro e w' ⟨v', us, e1, e2, e3, _, e5, _⟩
    exact ⟨v', us, e1, e2, e3, e5⟩)
  clear hN hS hL hl
  go_enter Try.func3, Try.ntmps3
  go_upto_region 3 with (go_at_call 7; refine (walAlive_any w).mono ?_; rintro e w1 ⟨rfl, hb1⟩)
  have hv1 := hv.below hb1
  go_upto_region 4 with (first
    | (at_builtin; refine app_copy rfl _ _ rfl rfl _ l rfl hv1 (by have := HL.out; omega) ?_; intro o2 w2 ho2 hf2 hb2)
    | (go_at_call 8; refine (HS1.out w2 o2 ho2).mono ?_; rintro e w3 ⟨o3, us3, rfl, ho3, he3, hb3⟩))
  have hB3 := below_and (below_and hb1 le hb2) le hb3
  go_upto_region 5 with (go_at_call 9; refine (HS2.out w3 hB3).mono ?_; rintro e w4 ⟨o4, us4, rfl, ho4, he4, hb4⟩)
  have r3 := ((he3.below hb4).rdl (ho3.below hb4) hLb)
  have r4 := he4.rdl ho4 hLb
  have hB4 := below_and hB3 le hb4
  have HSa := sameList_any w4 o3 o4 L L r3 r4 HLn.out
  rw [decide_eq_true rfl] at HSa
  go_wp2_with (go_at_call 10; refine HSa.mono ?_; rintro e w5 ⟨rfl, hb5⟩)
  go_ret
  exact ⟨rfl, below_and hB4 le hb5⟩
end Go.Proofs.Yteafgdidjdfiiaa
