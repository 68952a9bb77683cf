/- catenarylaw01.OctetUnlike: its walk. -/
import Derived.Test.YtfbcjlimaglgkabAlive
import Derived.Test.YtfbcjlimaglgkabW5
namespace Go.Proofs.Ytfbcjlimaglgkab
open Go.RowKit Oct

theorem unlike_eq (a b : List (List Int)) (ha : tot a ≤ 2147483647) (hb : tot b ≤ 2147483647) : decide (packL a = packL b) = decide (a = b) := by
  by_cases h : a = b
  · rw [decide_eq_true h, decide_eq_true (by rw [h])]
  · rw [decide_eq_false h, decide_eq_false (fun e => h (packL_inj ha hb e))]

set_option maxHeartbeats 1600000 in
theorem unlike_any (w : World) (v1 v2 : Value) (la lb : List (List Int)) (h1 : Rdl w v1 la) (h2 : Rdl w v2 lb) (ht1 : tot la ≤ 1048576) (ht2 : tot lb ≤ 1048576) :
    Calls Try.prog 3 #[v1, v2] w fun e w' => e = .returned (.bool true) ∧ Below w.heap.size w w' := by
  have le := Nat.le_refl w.heap.size
  have by1 := h1.byts
  have by2 := h2.byts
  have pb1 := packL_byt by1 (by omega)
  have pb2 := packL_byt by2 (by omega)
  have pl1 := packL_len la
  have pl2 := packL_len lb
  have ll1 := len_tot la
  have ll2 := len_tot lb
  have hdec := unlike_eq la lb (by omega) (by omega)
  go_enter Try.func3, Try.ntmps3
  go_wp2_with fail
  refine (alive_any w).mono ?_
  rintro e w1 ⟨rfl, hb1⟩
  have a1 := h1.below hb1
  have b1 := h2.below hb1
  clear h1 h2
  go_wp2_with fail
  refine (copy_any w1 v1 la a1 (by omega)).mono ?_
  rintro e w2 ⟨oc, uc, rfl, howc, helc, hfrc, hb2⟩
  have a2 := a1.below hb2
  have b2 := b1.below hb2
  have hB2 := below_and hb1 le hb2
  go_wp2_with fail
  refine (pack_any w2 oc la (helc.rdl howc by1) (by omega)).mono ?_
  rintro e w3 ⟨op, rfl, howp, hfrp, hb3⟩
  have a3 := a2.below hb3
  have b3 := b2.below hb3
  have hB3 := below_and hB2 le hb3
  clear a1 b1 a2 b2 hb1 hb2 hb3 hB2 howc helc hfrc
  go_wp2_with fail
  refine (copy_any w3 v2 lb b3 (by omega)).mono ?_
  rintro e w4 ⟨od, ud, rfl, howd, held, hfrd, hb4⟩
  have a4 := a3.below hb4
  have b4 := b3.below hb4
  have p4 := (howp.below hb4).rd pb1
  have hB4 := below_and hB3 le hb4
  go_wp2_with fail
  refine (pack_any w4 od lb (held.rdl howd by2) (by omega)).mono ?_
  rintro e w5 ⟨oq, rfl, howq, hfrq, hb5⟩
  have a5 := a4.below hb5
  have b5 := b4.below hb5
  have p5 := p4.below hb5
  have q5 := howq.rd pb2
  have hB5 := below_and hB4 le hb5
  clear a3 b3 a4 b4 hb4 hb5 hB3 hB4 howd held hfrd howp hfrp hfrq p4 howq
  go_wp2_with fail
  refine (copy_any w5 v1 la a5 (by omega)).mono ?_
  rintro e w6 ⟨oa, ua, rfl, howa, hela, hfra, hb6⟩
  have b6 := b5.below hb6
  go_wp2_with fail
  refine (copy_any w6 v2 lb b6 (by omega)).mono ?_
  rintro e w7 ⟨ob, ub, rfl, howb, helb, hfrb, hb7⟩
  have howa7 := howa.below hb7
  have hela7 := hela.below hb7
  have hb57 : Below w5.heap.size w5 w7 := below_and hb6 (Nat.le_refl _) hb7
  have lua := Nat.le_of_eq hela.len
  have lub := Nat.le_of_eq helb.len
  have hone : ∀ u ∈ ub, u.oneCell' = true := els_one helb
  go_wp2_with (at_builtin; refine app_list rfl _ _ rfl oa ua rfl howa7 ob ub rfl howb.rdv hone (by omega) ?_; intro oz w8 happ)
  have hb58 : Below w5.heap.size w5 w8 := hb57.trans (happ.below hfra hb57.size)
  have hE : Els w8 (ua ++ ub) (la ++ lb) := Els.app (All2.app hela7 helb) howa7 happ
  have byz : Byts (la ++ lb) := fun x hx => by
    rcases List.mem_append.1 hx with h | h
    · exact by1 x h
    · exact by2 x h
  have z8 := hE.rdl happ.own byz
  have a8 := a5.below hb58
  have b8 := b5.below hb58
  have p8 := p5.below hb58
  have q8 := q5.below hb58
  have hB8 := below_and hB5 le hb58
  clear hE happ howa howa7 hela hela7 howb helb hfra hfrb hb6 hb7 hb57 hb58 hB5 a5 b5 b6 p5 q5 hone lua lub
  have hS1 := same_any w8 op oq _ _ p8 q8
  rw [hdec] at hS1
  refine hS1.mono ?_
  rintro e w9 ⟨rfl, rfl⟩
  clear hS1
  go_wp2_with fail
  refine (sameList_any w9 v1 v2 la lb a8 b8 (by omega)).mono ?_
  rintro e w10 ⟨rfl, hb10⟩
  generalize decide (la = lb) = d at *
  have z10 := z8.below hb10
  have p10 := p8.below hb10
  have q10 := q8.below hb10
  have hB10 := below_and hB8 le hb10
  have htz : tot (la ++ lb) ≤ 10000000 := by rw [tot_app]; omega
  clear a8 b8 z8 p8 q8 hb10 hB8 hdec
  have hdd : (d == d) = true := by simp
  go_wp2_with fail
  refine (pack_any w10 oz (la ++ lb) z10 htz).mono ?_
  rintro e w11 ⟨orr, rfl, howr, hfrr, hb11⟩
  rw [packL_app] at howr
  have p11 := p10.below hb11
  have q11 := q10.below hb11
  have hB11 := below_and hB10 le hb11
  clear p10 q10 z10 hB10 hb11 hfrr
  go_wp2_with (first | (at_builtin; refine app_copy_w (by rfl) _ _ rfl rfl op (packL la) rfl p11 (by omega) ?_; intro o12 w12 how12 hfr12 hb12; have q12 := q11.below hb12) | (at_builtin; refine app_bytes_w (by rfl) _ _ rfl o12 (packL la) rfl how12 oq (packL lb) rfl q12.2 (by omega) ?_; intro o13 w13 happ13; have hb13 := happ13.below hfr12 hb12.size))
  have hb113 : Below w11.heap.size w11 w13 := hb12.trans hb13
  have hS2 := same_any w13 orr o13 _ _ ((howr.below hb113).rd (pb1.app pb2)) (happ13.own.rd (pb1.app pb2))
  rw [decide_eq_true rfl] at hS2
  have hB13 := below_and hB11 le hb113
  clear hB11 happ13 how12 hfr12 hb12 hb13 hb113 p11 q11 q12 howr
  refine hS2.mono ?_
  rintro e w14 ⟨rfl, rfl⟩
  clear hS2
  go_wp2_with fail
  go_ret
  exact ⟨rfl, hB13⟩
end Go.Proofs.Ytfbcjlimaglgkab
