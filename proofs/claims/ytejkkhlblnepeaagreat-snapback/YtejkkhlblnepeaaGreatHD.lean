/- The walks over package lease: Do. -/
import Derived.Test.YtejkkhlblnepeaaGreatHC
section
set_option linter.unusedVariables false
set_option linter.unusedSimpArgs false
namespace Go.Proofs.YtejkkhlblnepeaaGreat
open Go.RowKit Oct Kvl

theorem set2_keep {u : World} {b : Nat} {x y v : Value} {a : Addr} (h : u.cell? a = some v) (hn : ¬ (a.block = b)) : ((u.setCell ⟨b, 0, none⟩ x).setCell ⟨b, 1, none⟩ y).cell? a = some v :=
  grown_cellE (grown_trans (grown_set u b 0 x) (grown_set _ b 1 y) (.inl rfl)) h (fun e => hn (Option.some.inj e).symm)
set_option maxRecDepth 10000 in
set_option maxHeartbeats 8000000 in
/-- lease.Do. -/
theorem doS_any (w : World) (v : Value) (ys : List PEnt) (h : RL RLea 3 Any w v ys) (hz : szL 40 szS ys) (r : List Value) (o : POp) (ho : ROp Any w r o) (hzo : szO o) (who now : Int) :
    Calls Tryz.prog 95 #[v, .agg r.toArray, .int .i64 who, .int .i64 now] w (Rs w.heap.size w (doS ys o who now)) := by
  have le := Nat.le_refl w.heap.size
  have hall := ho
  obtain ⟨vn, va, vb, rfl, rn, ra', rb'⟩ := ho
  obtain ⟨w0, hw0⟩ : ∃ w0, w0 = ((w.alloc (.cells #[.int .i64 o.1, vn, va, vb, .int .i64 o.2.2.2.2] 56)).alloc (.cells #[.int .i64 now] 3)).alloc (.cells #[.int .i64 0, .slice none 0 0] 34) := ⟨_, rfl⟩
  have ra : Row w0 w.heap.size 56 [.int .i64 o.1, vn, va, vb, .int .i64 o.2.2.2.2] := by rw [hw0]; exact rowA (rowA (Row.new w 56 _) _) _
  have rn0 : Row w0 (w.heap.size + 1) 3 [.int .i64 now] := by
    rw [hw0]
    have := rowA (Row.new (w.alloc (.cells #[.int .i64 o.1, vn, va, vb, .int .i64 o.2.2.2.2] 56)) 3 [.int .i64 now]) (.cells #[.int .i64 0, .slice none 0 0] 34)
    simpa using this
  have rr : Row w0 (w.heap.size + 2) 34 [.int .i64 0, .slice none 0 0] := by
    rw [hw0]
    have := Row.new ((w.alloc (.cells #[.int .i64 o.1, vn, va, vb, .int .i64 o.2.2.2.2] 56)).alloc (.cells #[.int .i64 now] 3)) 34 [.int .i64 0, .slice none 0 0]
    simpa using this
  have B0 : Below w.heap.size w w0 := by rw [hw0]; exact (((Below.refl _ w).alloc (Nat.le_refl _) _).alloc (by simp) _).alloc (by simp; omega) _
  have hs0 : w0.heap.size = w.heap.size + 3 := by rw [hw0]; simp
  have HS0 := (show Hid (w0.heap.size = w.heap.size + 3) from hs0)
  have hC := cloneLeases_any w0 v ys (h.mv mov_lea B0.size (Mv.below B0)) hz
  go_enter Tryz.func95, Tryz.ntmps95
  go_upto_region 1 with fail
  rw [← hw0]
  clear hw0 hs0
  go_upto_region 2 with (go_at_call 55; refine hC.mono ?_; rintro e w1 ⟨v1, rfl, hL1, hb1⟩)
  have B1 := below_and B0 le hb1
  have fin : ∀ {w3 w4 : World} {v3 vv : Value} {x : List PEnt × Int × List Int}, LB OLea 84 3 w0.heap.size w3 v3 x.1 → OT (From w0.heap.size) w3 vv x.2.2 → Below w0.heap.size w0 w3 → w3.grownBy w4 (some (w.heap.size + 2)) → x = doS ys o who now → Rs w.heap.size w (doS ys o who now) (.returned (.tuple #[v3, .agg #[.int .i64 x.2.1, vv]])) w4 := by
    intro w3 w4 v3 vv x hL ht hb hg e
    rw [← e]
    have hsz := HS0.out
    have b3 := B0.trans (hb.mono B0.size)
    exact ⟨_, _, rfl, (hL.grown mov_olea hg (by omega)).weak mov_olea (by omega), ht.mv (Mv.from hg (by omega) (by omega)), b3.trans (grown_below hg b3.size (fun k hk => by cases hk; omega))⟩
  have HRI := (show Hid (∀ u, Below w.heap.size w u → Calls Tryz.prog 34 #[v] u fun e w' => e = .returned (.bool (decide (rgtS ys))) ∧ Below u.heap.size u w') from fun u hu => rightS_any u v ys (h.mv mov_lea hu.size (Mv.below hu)))
  have HCD := (show Hid (∀ u, Below w.heap.size w u → Calls Tryz.prog 111 #[.agg #[.int .i64 o.1, vn, va, vb, .int .i64 o.2.2.2.2]] u fun e w' => e = .returned (.bool (decide (wok o ∧ 5 ≤ o.1))) ∧ Below u.heap.size u w') from fun u hu => canDo_any u _ o (mov_op _ _ _ _ _ _ hall hu.size (Mv.below hu)))
  have HCL := (show Hid (∀ u, Calls Tryz.prog 73 #[.int .i64 who] u fun e w' => e = .returned (.bool (decide (1 ≤ who ∧ who ≤ 4))) ∧ w' = u) from fun u => isClient_any u who)
  have HTI := (show Hid (∀ u, Calls Tryz.prog 112 #[.int .i64 now] u fun e w' => e = .returned (.bool (decide (0 ≤ now ∧ now ≤ 2147482647))) ∧ w' = u) from fun u => isTime_any u now)
  clear hC
  have ra1 := ra.below hb1
  have rn1 := rn0.below hb1
  have rr1 := rr.below hb1
  by_cases hr : rgtS ys
  rotate_left
  · rw [decide_eq_false hr] at HRI
    have HD := (show Hid ((ys, 5, []) = doS ys o who now) from (doS_bad fun h => hr h.1).symm)
    clear hr
    go_wp2_with (first
      | (go_at_call 34; refine (HRI.out w1 B1).mono ?_; rintro e w2 ⟨rfl, hb2⟩; have rr2 := rr1.below hb2)
      | (refine wl_store rfl _ _ _ rfl (w.heap.size + 2) [.int .i64 5, .slice none 0 0] rfl rfl _ _ rr2 rfl (by kernel_rfl) (one_res rfl) ?_; intro w7 hr7 hg7))
    refine bodyPost_ret (results_tc rfl _ _ (w.heap.size + 2) _ _ (0, 0) _ (by rfl) hr7.out Tryz.underlying34 rfl (by kernel_rfl)) rfl ?_
    exact fin (x := (ys, 5, [])) (hL1.below mov_olea hb2) (OT.nil _ _) (below_and hb1 (Nat.le_refl _) hb2) hg7 HD.out
  rw [decide_eq_true hr] at HRI
  by_cases hc : wok o ∧ 5 ≤ o.1
  rotate_left
  · rw [decide_eq_false hc] at HCD
    have HD := (show Hid ((ys, 5, []) = doS ys o who now) from (doS_bad fun h => hc h.2.1).symm)
    clear hc
    go_wp2_with (first
      | (go_at_call 34; refine (HRI.out w1 B1).mono ?_; rintro e w2 ⟨rfl, hb2⟩; have rr2 := rr1.below hb2; have ra2 := ra1.below hb2)
      | (refine wl_load_w (by rfl) _ _ rfl w.heap.size rfl _ _ ra2 _ Tryz.underlying56 rfl (by kernel_rfl) ?_)
      | (go_at_call 111; refine (HCD.out w2 (below_and B1 le hb2)).mono ?_; rintro e w3 ⟨rfl, hb3⟩; have rr3 := rr2.below hb3)
      | (refine wl_store rfl _ _ _ rfl (w.heap.size + 2) [.int .i64 5, .slice none 0 0] rfl rfl _ _ rr3 rfl (by kernel_rfl) (one_res rfl) ?_; intro w7 hr7 hg7))
    refine bodyPost_ret (results_tc rfl _ _ (w.heap.size + 2) _ _ (0, 0) _ (by rfl) hr7.out Tryz.underlying34 rfl (by kernel_rfl)) rfl ?_
    exact fin (x := (ys, 5, [])) ((hL1.below mov_olea hb2).below mov_olea hb3) (OT.nil _ _) (below_and (below_and hb1 (Nat.le_refl _) hb2) (Nat.le_refl _) hb3) hg7 HD.out
  rw [decide_eq_true hc] at HCD
  by_cases hw : 1 ≤ who ∧ who ≤ 4
  rotate_left
  · rw [decide_eq_false hw] at HCL
    have HD := (show Hid ((ys, 5, []) = doS ys o who now) from (doS_bad fun h => hw h.2.2.1).symm)
    clear hw
    go_wp2_with (first
      | (go_at_call 34; refine (HRI.out w1 B1).mono ?_; rintro e w2 ⟨rfl, hb2⟩; have rr2 := rr1.below hb2; have ra2 := ra1.below hb2)
      | (refine wl_load_w (by rfl) _ _ rfl w.heap.size rfl _ _ ra2 _ Tryz.underlying56 rfl (by kernel_rfl) ?_)
      | (go_at_call 111; refine (HCD.out w2 (below_and B1 le hb2)).mono ?_; rintro e w3 ⟨rfl, hb3⟩; have rr3 := rr2.below hb3)
      | (go_at_call 73; refine (HCL.out w3).mono ?_; rintro e w3 ⟨rfl, rfl⟩)
      | (refine wl_store rfl _ _ _ rfl (w.heap.size + 2) [.int .i64 5, .slice none 0 0] rfl rfl _ _ rr3 rfl (by kernel_rfl) (one_res rfl) ?_; intro w7 hr7 hg7))
    refine bodyPost_ret (results_tc rfl _ _ (w.heap.size + 2) _ _ (0, 0) _ (by rfl) hr7.out Tryz.underlying34 rfl (by kernel_rfl)) rfl ?_
    exact fin (x := (ys, 5, [])) ((hL1.below mov_olea hb2).below mov_olea hb3) (OT.nil _ _) (below_and (below_and hb1 (Nat.le_refl _) hb2) (Nat.le_refl _) hb3) hg7 HD.out
  rw [decide_eq_true hw] at HCL
  by_cases ht : 0 ≤ now ∧ now ≤ 2147482647
  rotate_left
  · rw [decide_eq_false ht] at HTI
    have HD := (show Hid ((ys, 5, []) = doS ys o who now) from (doS_bad fun h => ht h.2.2.2).symm)
    clear ht
    go_wp2_with (first
      | (go_at_call 34; refine (HRI.out w1 B1).mono ?_; rintro e w2 ⟨rfl, hb2⟩; have rr2 := rr1.below hb2; have ra2 := ra1.below hb2)
      | (refine wl_load_w (by rfl) _ _ rfl w.heap.size rfl _ _ ra2 _ Tryz.underlying56 rfl (by kernel_rfl) ?_)
      | (go_at_call 111; refine (HCD.out w2 (below_and B1 le hb2)).mono ?_; rintro e w3 ⟨rfl, hb3⟩; have rr3 := rr2.below hb3; have cn3 := ((rn1.below hb2).below hb3).cell (j := 0) rfl)
      | (go_at_call 73; refine (HCL.out w3).mono ?_; rintro e w3 ⟨rfl, rfl⟩)
      | (go_at_call 112; refine (HTI.out w3).mono ?_; rintro e w3 ⟨rfl, rfl⟩)
      | (refine wl_store rfl _ _ _ rfl (w.heap.size + 2) [.int .i64 5, .slice none 0 0] rfl rfl _ _ rr3 rfl (by kernel_rfl) (one_res rfl) ?_; intro w7 hr7 hg7))
    refine bodyPost_ret (results_tc rfl _ _ (w.heap.size + 2) _ _ (0, 0) _ (by rfl) hr7.out Tryz.underlying34 rfl (by kernel_rfl)) rfl ?_
    exact fin (x := (ys, 5, [])) ((hL1.below mov_olea hb2).below mov_olea hb3) (OT.nil _ _) (below_and (below_and hb1 (Nat.le_refl _) hb2) (Nat.le_refl _) hb3) hg7 HD.out
  rw [decide_eq_true ht] at HTI
  have HK := (show Hid (doS ys o who now = doT (liv now ys) o who now) from doS_yes ⟨hr, hc, hw, ht⟩)
  have HRG := (show Hid (rgtS (liv now ys)) from liv_rgt hr)
  have HLU := (show Hid (∀ e ∈ liv now ys, now < lu e.2) from fun e he => (liv_mem he).2)
  have hy64 : ys.length ≤ 64 := Nat.le_trans hr.1 (by decide)
  clear hr
  go_upto_region 4 with (first
    | (go_at_call 34; refine (HRI.out w1 B1).mono ?_; rintro e w2 ⟨rfl, hb2⟩; have ra2 := ra1.below hb2)
    | (refine wl_load_w (by rfl) _ _ rfl w.heap.size rfl _ _ ra2 _ Tryz.underlying56 rfl (by kernel_rfl) ?_)
    | (go_at_call 111; refine (HCD.out w2 (below_and B1 le hb2)).mono ?_; rintro e w3 ⟨rfl, hb3⟩; have cn3 := ((rn1.below hb2).below hb3).cell (j := 0) rfl)
    | (go_at_call 73; refine (HCL.out w3).mono ?_; rintro e w3 ⟨rfl, rfl⟩)
    | (go_at_call 112; refine (HTI.out w3).mono ?_; rintro e w3 ⟨rfl, rfl⟩))
  have BB3 := below_and (below_and hb1 (Nat.le_refl _) hb2) (Nat.le_refl _) hb3
  have hL3 := (hL1.below mov_olea hb2).below mov_olea hb3
  have hDF := deleteF_any w3 v1 w0.heap.size ys hL3 hy64 (w.heap.size + 1) now 3 (rn0.below BB3) (by decide)
  have hfr := hL3.fr
  clear HRI HCD HCL HTI hb1 hb2 hb3 ra1 rn1 rr1 hL1 B1 cn3
  have hmf : ∀ (fn : Fn) (first cap : Array Value) (w : World), (Instr.makeFunc fn first cap).run Tryz.prog w = .ok (.func fn first cap) w := fun _ _ _ _ => rfl
  go_upto_region 5 with (go_at_call 113; refine hDF.mono ?_; rintro e w4 ⟨v4, rfl, hL4, hg4⟩)
  have BB4 : Below w0.heap.size w0 w4 := BB3.trans (grown_below hg4 BB3.size hfr)
  clear hDF hL3 hg4 hmf BB3 hfr
  have ra4 := ra.below BB4
  have rn4 := rn0.below BB4
  have rr4 := rr.below BB4
  have B4 := below_and B0 le BB4
  have c1 := ra4.cell (j := 1) rfl
  generalize liv now ys = L at *
  have hL64 : L.length ≤ 64 := Nat.le_trans HRG.out.1 (by decide)
  have hF := findS_any w4 v4 L (Rs.rl hL4) vn o.2.1 (rn.mv (Mv.below B4)).1 [] HRG.out.2.1 hL64
  obtain ⟨hwk, h5⟩ := hc
  obtain ⟨t1, t2⟩ := ht
  have h8' : o.1 ≤ 8 := hwk.1.2
  have HNU := (show Hid (o.1 ≠ 7 → o.1 ≠ 8 → 1 ≤ o.2.2.2.2 ∧ o.2.2.2.2 ≤ 1000) from fun h7 h8 => num_yes hwk h5 h7 h8)
  have HZN := (show Hid (szT o.2.1) from hzo.1)
  clear hz hwk hzo
  cases hg : getR o.2.1 L with
  | none =>
    have hin : isIn o.2.1 L = false := by unfold isIn; rw [hg]; rfl
    rw [hin] at hF
    by_cases hk : o.1 = 5
    · obtain ⟨D, hDD⟩ : ∃ D, D = doS ys o who now := ⟨_, rfl⟩
      obtain ⟨an, cn, rfl, hcn⟩ := rn.form
      have hD : addS L (pos o.2.1 L) (o.2.1, [who, now + o.2.2.2.2]) = D := by rw [hDD, HK.out]; exact doT_new hg hk
      have HDD := (show Hid (D = doS ys o who now) from hDD)
      have hnu := HNU.out (by omega) (by omega)
      obtain ⟨hn1, hn2⟩ := hnu
      have HA := (show Hid (∀ u : World, Below w4.heap.size w4 u → Calls Tryz.prog 116 #[v4, .int .i64 (pos o.2.1 L : Int), .agg #[.slice an o.2.1.length cn, .int .i64 who, .int .i64 (now + o.2.2.2.2)]] u (Rs w0.heap.size u D)) from fun u hu => by
        have := addS_any u v4 w0.heap.size L (hL4.below mov_olea hu) (Nat.le_trans BB4.size hu.size) hL64 (pos o.2.1 L) pos_le [.slice an o.2.1.length cn, .int .i64 who, .int .i64 (now + o.2.2.2.2)] (o.2.1, [who, now + o.2.2.2.2]) ⟨_, _, _, rfl, rn.mv (Mv.below (below_and B4 le hu)), rfl⟩ HZN.out
        rw [hD] at this
        exact this)
      have hk' : (o.1 == 5) = true := by simp [hk]
      clear hD hDD hk hg hin
      generalize pos o.2.1 L = pp at HA hF
      go_upto_region 8 with (go_at_call 115; refine hF.mono ?_; rintro e w5 ⟨rfl, hb5⟩; have ra5 := ra4.below hb5; have d0 := ra5.cell (j := 0) rfl)
      have d1 := ra5.cell (j := 1) rfl
      have d4 := ra5.cell (j := 4) rfl
      have dn := (rn4.below hb5).cell (j := 0) rfl
      have rr5 := rr4.below hb5
      go_wp2_with (first
        | (go_at_call 116; refine (HA.out w5 hb5).mono ?_; rintro e w6 ⟨v6, vv6, rfl, hL6, t6, hb6⟩; have rr6 : Row w6 (w.heap.size + 2) 34 [.int .i64 0, .slice none 0 0] := (hb6.block _ rr.lt).trans rr5)
        | (refine wl_store rfl _ _ _ rfl (w.heap.size + 2) [.int .i64 D.2.1, vv6] rfl rfl _ _ rr6 rfl (by kernel_rfl) (one_res t6.one) ?_; intro w7 hr7 hg7))
      refine bodyPost_ret (results_tc rfl _ _ (w.heap.size + 2) _ _ (0, 0) _ (by rfl) hr7.out Tryz.underlying34 rfl (by kernel_rfl)) rfl ?_
      exact fin (x := D) hL6 t6 ((below_and BB4 (Nat.le_refl _) hb5).trans hb6) hg7 HDD.out
    · have HD := (show Hid ((L, 1, []) = doS ys o who now) by show _ = _; rw [HK.out]; exact doT_miss hg hk)
      have hk' : (o.1 == 5) = false := by simp [hk]
      clear hk
      go_wp2_with (first
        | (go_at_call 115; refine hF.mono ?_; rintro e w5 ⟨rfl, hb5⟩; have ra5 := ra4.below hb5; have d0 := ra5.cell (j := 0) rfl; have rr5 := rr4.below hb5)
        | (refine wl_store rfl _ _ _ rfl (w.heap.size + 2) [.int .i64 1, .slice none 0 0] rfl rfl _ _ rr5 rfl (by kernel_rfl) (one_res rfl) ?_; intro w7 hr7 hg7))
      refine bodyPost_ret (results_tc rfl _ _ (w.heap.size + 2) _ _ (0, 0) _ (by rfl) hr7.out Tryz.underlying34 rfl (by kernel_rfl)) rfl ?_
      exact fin (x := (L, 1, [])) (hL4.below mov_olea hb5) (OT.nil _ _) (below_and BB4 (Nat.le_refl _) hb5) hg7 HD.out
  | some u =>
    have hin : isIn o.2.1 L = true := by unfold isIn; rw [hg]; rfl
    rw [hin] at hF
    have hat := get_some hg
    go_upto_region 7 with (go_at_call 115; refine hF.mono ?_; rintro e w5 ⟨rfl, hb5⟩)
    have ra5 := ra4.below hb5
    have rn5 := rn4.below hb5
    have rr5 := rr4.below hb5
    have d0 := ra5.cell (j := 0) rfl
    have d4 := ra5.cell (j := 4) rfl
    have dn := rn5.cell (j := 0) rfl
    have BB5 := below_and BB4 (Nat.le_refl _) hb5
    have B5 := below_and B4 le hb5
    have hL5 := hL4.below mov_olea hb5
    clear hF hin hL4 hb5 ra4 rn4 rr4 BB4 B4
    have HG := (show Hid (getR o.2.1 L = some u) from hg)
    clear hg
    obtain ⟨p, hp⟩ : ∃ p, p = pos o.2.1 L := ⟨_, rfl⟩
    rw [← hp] at hat ⊢
    have HP := (show Hid (p = pos o.2.1 L) from hp)
    clear hp
    have hpl := (List.getElem?_eq_some_iff.1 hat).1
    obtain ⟨g, cap, cur, rows, rfl, k1, k2, k3, k4, k5, k6, k7, k8, k9⟩ := hL5.opnS (by omega)
    obtain ⟨rp, hrp⟩ : ∃ rp, rows[p]? = some rp := ⟨_, List.getElem?_eq_getElem (by omega)⟩
    have hol := k9.get hrp hat
    obtain ⟨sa, p1, q1, rfl, o1, hu⟩ := hol
    have hu' : u = [p1, q1] := hu
    subst hu'
    have hcell : ∀ j z, ([sa, .int .i64 p1, .int .i64 q1] : List Value)[j]? = some z → cur[p * 3 + j]? = some z := fun j z hz => by
      have hj : j < 3 := (List.getElem?_eq_some_iff.1 hz).1
      have := flat_at (j := j) k7 hrp hz
      rw [← k8, List.getElem?_take, if_pos (by omega)] at this
      exact this
    have e0 := k1.cell (hcell 0 _ rfl)
    have e1 := k1.cell (hcell 1 _ rfl)
    have e2 := k1.cell (hcell 2 _ rfl)
    have hpi : (p : Int) < (L.length : Int) := by omega
    have hlen64 : (L.length : Int) ≤ 64 := by omega
    have hmem : (o.2.1, [p1, q1]) ∈ L := List.mem_of_getElem? hat
    have hlu : now < q1 := HLU.out _ hmem
    have hrg := HRG.out.2.2 _ hmem
    have hp1 : 1 ≤ p1 ∧ p1 ≤ 4 := hrg.2.1
    have hq1 : 1 ≤ q1 ∧ q1 ≤ 2147483647 := hrg.2.2
    clear hcell
    have HT := (show Hid (∀ u, Below w5.heap.size w5 u → Calls Tryz.prog 117 #[.agg #[sa, .int .i64 p1, .int .i64 q1], .int .i64 now] u fun e w' => ∃ ax cx, e = .returned (.slice ax (tol [p1, q1] now).length cx) ∧ OT (From u.heap.size) w' (.slice ax (tol [p1, q1] now).length cx) (tol [p1, q1] now) ∧ Below u.heap.size u w' ∧ Below w5.heap.size w5 w') from fun u hu => by
      refine (told_any u [sa, .int .i64 p1, .int .i64 q1] (o.2.1, [p1, q1]) ⟨_, _, _, rfl, (o1.mv (G' := Any) (fun k hk hlt => ⟨hu.block k hlt, trivial⟩)).rt, rfl⟩ now (show 0 ≤ p1 by omega) (show p1 ≤ 2147483647 by omega) (show 0 ≤ q1 - now by omega) (show q1 - now ≤ 2147483647 by omega)).mono ?_
      rintro e w' ⟨v', rfl, ot, hb'⟩
      obtain ⟨ax, cx, rfl, _⟩ := ot.rt.form
      exact ⟨ax, cx, rfl, ot, hb', below_and hu (Nat.le_refl _) hb'⟩)
    have SK := (show Hid (∀ u, Below w5.heap.size w5 u → u.cell? ⟨g, p * 3, none⟩ = some sa ∧ u.cell? ⟨g, p * 3 + 1, none⟩ = some (.int .i64 p1) ∧ u.cell? ⟨g, p * 3 + 2, none⟩ = some (.int .i64 q1) ∧ u.cell? ⟨w.heap.size + 1, 0, none⟩ = some (.int .i64 now)) from fun u hu => ⟨keepE hu e0, keepE hu e1, keepE hu e2, keepE hu dn⟩)
    have hdw : Below w5.heap.size w5 w5.drew := ⟨rfl, rfl, rfl, Nat.le_refl _, fun _ _ => rfl⟩
    have hgn : ¬ (g = w.heap.size + 1 + 1) := by have := HS0.out; omega
    by_cases hk8 : o.1 = 8
    · have HD := (show Hid ((L, 0, tol [p1, q1] now) = doS ys o who now) by show _ = _; rw [HK.out]; exact doT_hold HG.out hk8)
      have hk' : (o.1 == 8) = true := by simp [hk8]
      clear hk8
      go_upto_region 12 with fail
      generalize tol [p1, q1] now = TL at *
      go_region_held3 (fun u => u.cell? ⟨g, p * 3, none⟩ = some sa ∧ u.cell? ⟨g, p * 3 + 1, none⟩ = some (.int .i64 p1) ∧ u.cell? ⟨g, p * 3 + 2, none⟩ = some (.int .i64 q1) ∧ u.cell? ⟨w.heap.size + 1, 0, none⟩ = some (.int .i64 now))
        (first | exact SK.out _ (by assumption) | exact ⟨set2_keep (SK.out w8 hB8).1 hgn, set2_keep (SK.out w8 hB8).2.1 hgn, set2_keep (SK.out w8 hB8).2.2.1 hgn, set2_keep (SK.out w8 hB8).2.2.2 (by show ¬ (w.heap.size + 1 = w.heap.size + 1 + 1); omega)⟩ | go_keep)
        (first | (go_at_call 117; refine (HT.out _ (by first | assumption | exact Below.refl _ _)).mono ?_; rintro e w8 ⟨ax8, cx8, rfl, t8, hb8, hB8⟩; have rr8 := rr5.below hB8; have z0 := rr8.cell (j := 0) rfl; have z1 := rr8.cell (j := 1) rfl; have y0 := rr8.frozen 0; have y1 := rr8.frozen 1))
      have hr9 := (rr8.set 0 (.int .i64 0)).set 1 (.slice ax8 TL.length cx8)
      have hg9 := grown_trans (grown_set w8 (w.heap.size + 2) 0 (.int .i64 0)) (grown_set _ (w.heap.size + 2) 1 (.slice ax8 TL.length cx8)) (.inl rfl)
      go_wp2_with fail
      refine bodyPost_ret (results_tc rfl _ _ (w.heap.size + 2) _ _ (0, 0) _ (by rfl) hr9 Tryz.underlying34 rfl (by kernel_rfl)) rfl ?_
      exact fin (x := (L, 0, TL)) (hL5.below mov_olea hB8) (t8.mv (Mv.weak BB5.size)) (below_and BB5 (Nat.le_refl _) hB8) hg9 HD.out
    have hk8' : (o.1 == 8) = false := by simp [hk8]
    by_cases hwho : p1 = who
    rotate_left
    · have HD := (show Hid ((L, 4, tol [p1, q1] now) = doS ys o who now) by show _ = _; rw [HK.out]; exact doT_held HG.out hk8 hwho)
      have hwb : (p1 != who) = true := by simp [hwho]
      clear hk8 hwho
      go_upto_region 14 with fail
      generalize tol [p1, q1] now = TL at *
      go_region_held3 (fun u => u.cell? ⟨g, p * 3, none⟩ = some sa ∧ u.cell? ⟨g, p * 3 + 1, none⟩ = some (.int .i64 p1) ∧ u.cell? ⟨g, p * 3 + 2, none⟩ = some (.int .i64 q1) ∧ u.cell? ⟨w.heap.size + 1, 0, none⟩ = some (.int .i64 now))
        (first | exact SK.out _ (by assumption) | exact ⟨set2_keep (SK.out w8 hB8).1 hgn, set2_keep (SK.out w8 hB8).2.1 hgn, set2_keep (SK.out w8 hB8).2.2.1 hgn, set2_keep (SK.out w8 hB8).2.2.2 (by show ¬ (w.heap.size + 1 = w.heap.size + 1 + 1); omega)⟩ | go_keep)
        (first | (go_at_call 117; refine (HT.out _ (by first | assumption | exact Below.refl _ _)).mono ?_; rintro e w8 ⟨ax8, cx8, rfl, t8, hb8, hB8⟩; have rr8 := rr5.below hB8; have z0 := rr8.cell (j := 0) rfl; have z1 := rr8.cell (j := 1) rfl; have y0 := rr8.frozen 0; have y1 := rr8.frozen 1))
      have hr9 := (rr8.set 0 (.int .i64 4)).set 1 (.slice ax8 TL.length cx8)
      have hg9 := grown_trans (grown_set w8 (w.heap.size + 2) 0 (.int .i64 4)) (grown_set _ (w.heap.size + 2) 1 (.slice ax8 TL.length cx8)) (.inl rfl)
      go_wp2_with fail
      refine bodyPost_ret (results_tc rfl _ _ (w.heap.size + 2) _ _ (0, 0) _ (by rfl) hr9 Tryz.underlying34 rfl (by kernel_rfl)) rfl ?_
      exact fin (x := (L, 4, TL)) (hL5.below mov_olea hB8) (t8.mv (Mv.weak BB5.size)) (below_and BB5 (Nat.le_refl _) hB8) hg9 HD.out
    subst hwho
    have hwb : (p1 != p1) = false := by simp
    have hone : ∀ z ∈ rows.flatten, z.oneCell' = true := by
      intro z hz
      obtain ⟨q, hq, hzq⟩ := List.mem_flatten.1 hz
      obtain ⟨j, hj, rfl⟩ := List.getElem_of_mem hq
      exact one_RS (k9.get (List.getElem?_eq_getElem hj) (List.getElem?_eq_getElem (by omega))).lea z hzq
    have fin2 : ∀ {w4' w5' : World} {vv : Value} {c : Int} {zs : List PEnt}, LB OLea 84 3 w0.heap.size w4' vv zs → w5.grownBy w4' (some g) → w4'.grownBy w5' (some (w.heap.size + 2)) → (zs, c, []) = doS ys o p1 now → Rs w.heap.size w (doS ys o p1 now) (.returned (.tuple #[vv, .agg #[.int .i64 c, .slice none 0 0]])) w5' := by
      intro w4' w5' vv c zs hL hg4' hg5' e
      exact fin (x := (zs, c, [])) hL (OT.nil _ _) (BB5.trans (grown_below hg4' BB5.size (fun k hk => by cases hk; exact k5))) hg5' e
    have FIN2 := (show Hid (∀ {w4' w5' : World} {vv : Value} {c : Int} {zs : List PEnt}, LB OLea 84 3 w0.heap.size w4' vv zs → w5.grownBy w4' (some g) → w4'.grownBy w5' (some (w.heap.size + 2)) → (zs, c, []) = doS ys o p1 now → Rs w.heap.size w (doS ys o p1 now) (.returned (.tuple #[vv, .agg #[.int .i64 c, .slice none 0 0]])) w5') from fin2)
    clear fin2 fin HT SK hdw
    by_cases hk7 : o.1 = 7
    · have HD := (show Hid ((L.take p ++ L.drop (p + 1), 0, []) = doS ys o p1 now) by show _ = _; rw [HK.out, HP.out]; exact doT_del HG.out hk8 rfl hk7)
      have hk7' : (o.1 == 7) = true := by simp [hk7]
      have hDe := deleteS_any w5 g cap L.length p cur rows.flatten k1 k2 (by rw [flat_len k7, k6]) k8 hpl k3 k4 hL64 hone
      clear hk8 hk7
      go_wp2_with (first
        | (go_at_call 118; refine hDe.mono ?_; rintro e w6 ⟨rfl, hg6, cur', x1, x2, x3⟩; have rr6 := rr5.grown hg6 (fun e => by injection e with e; exact hgn (by omega)); have D1 := (show Hid (Row w6 g 84 cur' ∧ cur'.length = cap * 3 ∧ cur'.take ((L.length - 1) * 3) = rows.flatten.take (p * 3) ++ rows.flatten.drop ((p + 1) * 3)) from ⟨x1, x2, x3⟩); clear x1 x2 x3)
        | (refine wl_store rfl _ _ _ rfl (w.heap.size + 2) [.int .i64 0, .slice none 0 0] rfl rfl _ _ rr6 rfl (by kernel_rfl) (one_res rfl) ?_; intro w7 hr7 hg7))
      refine bodyPost_ret (results_tc rfl _ _ (w.heap.size + 2) _ _ (0, 0) _ (by rfl) hr7.out Tryz.underlying34 rfl (by kernel_rfl)) rfl ?_
      obtain ⟨x1, x2, x3⟩ := D1.out
      refine FIN2.out ?_ hg6 hg7 HD.out
      have hmv : Mv (fun b => w0.heap.size ≤ b ∧ b ≠ g) (fun b => w0.heap.size ≤ b ∧ b ≠ g) w5 w6 := fun j hj hlt => ⟨hg6.block j hlt (fun e => by injection e with e; exact hj.2 e), hj⟩
      refine LB.mkS x1 x2 (by omega) k4 k5 (rows := rows.take p ++ rows.drop (p + 1)) (by rw [List.length_append, List.length_take, List.length_drop]; omega) (fun q hq => ?_) ?_ (All2.app ((k9.take p).mono fun q b hq => mov_olea _ _ _ _ _ _ hq hg6.size hmv) ((k9.drop (p + 1)).mono fun q b hq => mov_olea _ _ _ _ _ _ hq hg6.size hmv))
      · rcases List.mem_append.1 hq with hq | hq
        · exact k7 q (List.mem_of_mem_take hq)
        · exact k7 q (List.mem_of_mem_drop hq)
      · rw [x3, flat_take k7 p (by omega), flat_drop k7 (p + 1) (by omega), List.flatten_append]
    · have HD := (show Hid ((L.set p (o.2.1, [p1, now + o.2.2.2.2]), 0, []) = doS ys o p1 now) by show _ = _; rw [HK.out, HP.out]; exact doT_set HG.out hk8 rfl hk7)
      have hk7' : (o.1 == 7) = false := by simp [hk7]
      obtain ⟨hn1, hn2⟩ := HNU.out hk7 hk8
      have hpc : p * 3 + 2 < cur.length := by omega
      have HSET := (show Hid (∀ w2 : World, w5.grownBy w2 (some g) → Row w2 g 84 (cur.set (p * 3 + 2) (.int .i64 (now + o.2.2.2.2))) → LB OLea 84 3 w0.heap.size w2 (.slice (some ⟨g, 0, none⟩) L.length cap) (L.set p (o.2.1, [p1, now + o.2.2.2.2]))) from fun w2 hg2 hr2 => LB.set3 k1 k2 k3 k4 k5 k6 k7 k8 k9 hat hrp hg2 hr2)
      clear hk8 hk7
      go_wp2_with (first
        | (refine wl_set rfl _ _ _ rfl g (p * 3 + 2) _ rfl rfl _ _ k1 hpc (by kernel_rfl) rfl ?_; intro w6 hr6 hg6; have rr6 := rr5.grown hg6 (fun e => by injection e with e; exact hgn (by omega)))
        | (refine wl_store rfl _ _ _ rfl (w.heap.size + 2) [.int .i64 0, .slice none 0 0] rfl rfl _ _ rr6 rfl (by kernel_rfl) (one_res rfl) ?_; intro w7 hr7 hg7))
      refine bodyPost_ret (results_tc rfl _ _ (w.heap.size + 2) _ _ (0, 0) _ (by rfl) hr7.out Tryz.underlying34 rfl (by kernel_rfl)) rfl ?_
      exact FIN2.out (HSET.out _ hg6 hr6.out) hg6 hg7 HD.out
end Go.Proofs.YtejkkhlblnepeaaGreat
end
