/- What a step on a state may turn; the walk over session.keep. -/
import Derived.Test.YteafgdidjdfiiaaGreatJ09
import Derived.Test.YteafgdidjdfiiaaGreatJ04
import Derived.Test.YteafgdidjdfiiaaGreatJ07
import Derived.Deep.RegionLaw
section
set_option linter.unusedVariables false
set_option linter.unusedSimpArgs false
namespace Go.Proofs.YteafgdidjdfiiaaGreat
open Go.RowKit Oct Kvl

theorem set2_keep {u : World} {b : Nat} {x y v : Value} {a : Addr} (h : u.cell? a = some v) (hn : ¬ (a.block = b)) : ((u.setCell ⟨b, 0, none⟩ x).setCell ⟨b, 1, none⟩ y).cell? a = some v :=
  grown_cellE (grown_trans (grown_set u b 0 x) (grown_set _ b 1 y) (.inl rfl)) h (fun e => hn (Option.some.inj e).symm)
set_option maxRecDepth 10000 in
set_option maxHeartbeats 8000000 in
/-- lease.Do. -/
theorem doS_any (w : World) (v : Value) (ys : List PEnt) (h : RL RLea 3 Any w v ys) (hz : szL 40 szS ys) (r : List Value) (o : POp) (ho : ROp Any w r o) (hzo : szO o) (who now : Int) :
    Calls Tryz.prog 80 #[v, .agg r.toArray, .int .i64 who, .int .i64 now] w (Rs w.heap.size w (doS ys o who now)) := by
  have le := Nat.le_refl w.heap.size
  have hall := ho
  obtain ⟨vn, va, vb, rfl, rn, ra', rb'⟩ := ho
  obtain ⟨w0, hw0⟩ : ∃ w0, w0 = ((w.alloc (.cells #[.int .i64 o.1, vn, va, vb, .int .i64 o.2.2.2.2] 127)).alloc (.cells #[.int .i64 now] 3)).alloc (.cells #[.int .i64 0, .slice none 0 0] 30) := ⟨_, rfl⟩
  have ra : Row w0 w.heap.size 127 [.int .i64 o.1, vn, va, vb, .int .i64 o.2.2.2.2] := by rw [hw0]; exact rowA (rowA (Row.new w 127 _) _) _
  have rn0 : Row w0 (w.heap.size + 1) 3 [.int .i64 now] := by
    rw [hw0]
    have := rowA (Row.new (w.alloc (.cells #[.int .i64 o.1, vn, va, vb, .int .i64 o.2.2.2.2] 127)) 3 [.int .i64 now]) (.cells #[.int .i64 0, .slice none 0 0] 30)
    simpa using this
  have rr : Row w0 (w.heap.size + 2) 30 [.int .i64 0, .slice none 0 0] := by
    rw [hw0]
    have := Row.new ((w.alloc (.cells #[.int .i64 o.1, vn, va, vb, .int .i64 o.2.2.2.2] 127)).alloc (.cells #[.int .i64 now] 3)) 30 [.int .i64 0, .slice none 0 0]
    simpa using this
  have B0 : Below w.heap.size w w0 := by rw [hw0]; exact (((Below.refl _ w).alloc (Nat.le_refl _) _).alloc (by simp) _).alloc (by simp; omega) _
  have hs0 : w0.heap.size = w.heap.size + 3 := by rw [hw0]; simp
  have HS0 := (show Hid (w0.heap.size = w.heap.size + 3) from hs0)
  have hC := cloneLeases_any w0 v ys (h.mv mov_lea B0.size (Mv.below B0)) hz
  go_enter Tryz.func80, Tryz.ntmps80
  go_upto_region 1 with fail
  rw [← hw0]
  clear hw0 hs0
  go_upto_region 2 with (go_at_call 40; refine hC.mono ?_; rintro e w1 ⟨v1, rfl, hL1, hb1⟩)
  have B1 := below_and B0 le hb1
  have fin : ∀ {w3 w4 : World} {v3 vv : Value} {x : List PEnt × Int × List Int}, LB OLea 75 3 w0.heap.size w3 v3 x.1 → OT (From w0.heap.size) w3 vv x.2.2 → Below w0.heap.size w0 w3 → w3.grownBy w4 (some (w.heap.size + 2)) → x = doS ys o who now → Rs w.heap.size w (doS ys o who now) (.returned (.tuple #[v3, .agg #[.int .i64 x.2.1, vv]])) w4 := by
    intro w3 w4 v3 vv x hL ht hb hg e
    rw [← e]
    have hsz := HS0.out
    have b3 := B0.trans (hb.mono B0.size)
    exact ⟨_, _, rfl, (hL.grown mov_olea hg (by omega)).weak mov_olea (by omega), ht.mv (Mv.from hg (by omega) (by omega)), b3.trans (grown_below hg b3.size (fun k hk => by cases hk; omega))⟩
  have HRI := (show Hid (∀ u, Below w.heap.size w u → Calls Tryz.prog 45 #[v] u fun e w' => e = .returned (.bool (decide (rgtS ys))) ∧ Below u.heap.size u w') from fun u hu => rightS_any u v ys (h.mv mov_lea hu.size (Mv.below hu)))
  have HCD := (show Hid (∀ u, Below w.heap.size w u → Calls Tryz.prog 94 #[.agg #[.int .i64 o.1, vn, va, vb, .int .i64 o.2.2.2.2]] u fun e w' => e = .returned (.bool (decide (wok o ∧ 5 ≤ o.1))) ∧ Below u.heap.size u w') from fun u hu => canDo_any u _ o (mov_op _ _ _ _ _ _ hall hu.size (Mv.below hu)))
  have HCL := (show Hid (∀ u, Calls Tryz.prog 75 #[.int .i64 who] u fun e w' => e = .returned (.bool (decide (1 ≤ who ∧ who ≤ 4))) ∧ w' = u) from fun u => isClient_any u who)
  have HTI := (show Hid (∀ u, Calls Tryz.prog 95 #[.int .i64 now] u fun e w' => e = .returned (.bool (decide (0 ≤ now ∧ now ≤ 2147482647))) ∧ w' = u) from fun u => isTime_any u now)
  clear hC
  have ra1 := ra.below hb1
  have rn1 := rn0.below hb1
  have rr1 := rr.below hb1
  by_cases hr : rgtS ys
  rotate_left
  · rw [decide_eq_false hr] at HRI
    have HD := (show Hid ((ys, 5, []) = doS ys o who now) from (doS_bad fun h => hr h.1).symm)
    clear hr
    go_wp2_with (first
      | (go_at_call 45; refine (HRI.out w1 B1).mono ?_; rintro e w2 ⟨rfl, hb2⟩; have rr2 := rr1.below hb2)
      | (refine wl_store rfl _ _ _ rfl (w.heap.size + 2) [.int .i64 5, .slice none 0 0] rfl rfl _ _ rr2 rfl (by kernel_rfl) (one_res rfl) ?_; intro w7 hr7 hg7))
    refine bodyPost_ret (results_tc rfl _ _ (w.heap.size + 2) _ _ (0, 0) _ (by rfl) hr7.out Tryz.underlying30 rfl (by kernel_rfl)) rfl ?_
    exact fin (x := (ys, 5, [])) (hL1.below mov_olea hb2) (OT.nil _ _) (below_and hb1 (Nat.le_refl _) hb2) hg7 HD.out
  rw [decide_eq_true hr] at HRI
  by_cases hc : wok o ∧ 5 ≤ o.1
  rotate_left
  · rw [decide_eq_false hc] at HCD
    have HD := (show Hid ((ys, 5, []) = doS ys o who now) from (doS_bad fun h => hc h.2.1).symm)
    clear hc
    go_wp2_with (first
      | (go_at_call 45; refine (HRI.out w1 B1).mono ?_; rintro e w2 ⟨rfl, hb2⟩; have rr2 := rr1.below hb2; have ra2 := ra1.below hb2)
      | (refine wl_load_w (by rfl) _ _ rfl w.heap.size rfl _ _ ra2 _ Tryz.underlying127 rfl (by kernel_rfl) ?_)
      | (go_at_call 94; refine (HCD.out w2 (below_and B1 le hb2)).mono ?_; rintro e w3 ⟨rfl, hb3⟩; have rr3 := rr2.below hb3)
      | (refine wl_store rfl _ _ _ rfl (w.heap.size + 2) [.int .i64 5, .slice none 0 0] rfl rfl _ _ rr3 rfl (by kernel_rfl) (one_res rfl) ?_; intro w7 hr7 hg7))
    refine bodyPost_ret (results_tc rfl _ _ (w.heap.size + 2) _ _ (0, 0) _ (by rfl) hr7.out Tryz.underlying30 rfl (by kernel_rfl)) rfl ?_
    exact fin (x := (ys, 5, [])) ((hL1.below mov_olea hb2).below mov_olea hb3) (OT.nil _ _) (below_and (below_and hb1 (Nat.le_refl _) hb2) (Nat.le_refl _) hb3) hg7 HD.out
  rw [decide_eq_true hc] at HCD
  by_cases hw : 1 ≤ who ∧ who ≤ 4
  rotate_left
  · rw [decide_eq_false hw] at HCL
    have HD := (show Hid ((ys, 5, []) = doS ys o who now) from (doS_bad fun h => hw h.2.2.1).symm)
    clear hw
    go_wp2_with (first
      | (go_at_call 45; refine (HRI.out w1 B1).mono ?_; rintro e w2 ⟨rfl, hb2⟩; have rr2 := rr1.below hb2; have ra2 := ra1.below hb2)
      | (refine wl_load_w (by rfl) _ _ rfl w.heap.size rfl _ _ ra2 _ Tryz.underlying127 rfl (by kernel_rfl) ?_)
      | (go_at_call 94; refine (HCD.out w2 (below_and B1 le hb2)).mono ?_; rintro e w3 ⟨rfl, hb3⟩; have rr3 := rr2.below hb3)
      | (go_at_call 75; refine (HCL.out w3).mono ?_; rintro e w3 ⟨rfl, rfl⟩)
      | (refine wl_store rfl _ _ _ rfl (w.heap.size + 2) [.int .i64 5, .slice none 0 0] rfl rfl _ _ rr3 rfl (by kernel_rfl) (one_res rfl) ?_; intro w7 hr7 hg7))
    refine bodyPost_ret (results_tc rfl _ _ (w.heap.size + 2) _ _ (0, 0) _ (by rfl) hr7.out Tryz.underlying30 rfl (by kernel_rfl)) rfl ?_
    exact fin (x := (ys, 5, [])) ((hL1.below mov_olea hb2).below mov_olea hb3) (OT.nil _ _) (below_and (below_and hb1 (Nat.le_refl _) hb2) (Nat.le_refl _) hb3) hg7 HD.out
  rw [decide_eq_true hw] at HCL
  by_cases ht : 0 ≤ now ∧ now ≤ 2147482647
  rotate_left
  · rw [decide_eq_false ht] at HTI
    have HD := (show Hid ((ys, 5, []) = doS ys o who now) from (doS_bad fun h => ht h.2.2.2).symm)
    clear ht
    go_wp2_with (first
      | (go_at_call 45; refine (HRI.out w1 B1).mono ?_; rintro e w2 ⟨rfl, hb2⟩; have rr2 := rr1.below hb2; have ra2 := ra1.below hb2)
      | (refine wl_load_w (by rfl) _ _ rfl w.heap.size rfl _ _ ra2 _ Tryz.underlying127 rfl (by kernel_rfl) ?_)
      | (go_at_call 94; refine (HCD.out w2 (below_and B1 le hb2)).mono ?_; rintro e w3 ⟨rfl, hb3⟩; have rr3 := rr2.below hb3; have cn3 := ((rn1.below hb2).below hb3).cell (j := 0) rfl)
      | (go_at_call 75; refine (HCL.out w3).mono ?_; rintro e w3 ⟨rfl, rfl⟩)
      | (go_at_call 95; refine (HTI.out w3).mono ?_; rintro e w3 ⟨rfl, rfl⟩)
      | (refine wl_store rfl _ _ _ rfl (w.heap.size + 2) [.int .i64 5, .slice none 0 0] rfl rfl _ _ rr3 rfl (by kernel_rfl) (one_res rfl) ?_; intro w7 hr7 hg7))
    refine bodyPost_ret (results_tc rfl _ _ (w.heap.size + 2) _ _ (0, 0) _ (by rfl) hr7.out Tryz.underlying30 rfl (by kernel_rfl)) rfl ?_
    exact fin (x := (ys, 5, [])) ((hL1.below mov_olea hb2).below mov_olea hb3) (OT.nil _ _) (below_and (below_and hb1 (Nat.le_refl _) hb2) (Nat.le_refl _) hb3) hg7 HD.out
  rw [decide_eq_true ht] at HTI
  have HK := (show Hid (doS ys o who now = doT (liv now ys) o who now) from doS_yes ⟨hr, hc, hw, ht⟩)
  have HRG := (show Hid (rgtS (liv now ys)) from liv_rgt hr)
  have HLU := (show Hid (∀ e ∈ liv now ys, now < lu e.2) from fun e he => (liv_mem he).2)
  have hy64 : ys.length ≤ 64 := Nat.le_trans hr.1 (by decide)
  clear hr
  go_upto_region 4 with (first
    | (go_at_call 45; refine (HRI.out w1 B1).mono ?_; rintro e w2 ⟨rfl, hb2⟩; have ra2 := ra1.below hb2)
    | (refine wl_load_w (by rfl) _ _ rfl w.heap.size rfl _ _ ra2 _ Tryz.underlying127 rfl (by kernel_rfl) ?_)
    | (go_at_call 94; refine (HCD.out w2 (below_and B1 le hb2)).mono ?_; rintro e w3 ⟨rfl, hb3⟩; have cn3 := ((rn1.below hb2).below hb3).cell (j := 0) rfl)
    | (go_at_call 75; refine (HCL.out w3).mono ?_; rintro e w3 ⟨rfl, rfl⟩)
    | (go_at_call 95; refine (HTI.out w3).mono ?_; rintro e w3 ⟨rfl, rfl⟩))
  have BB3 := below_and (below_and hb1 (Nat.le_refl _) hb2) (Nat.le_refl _) hb3
  have hL3 := (hL1.below mov_olea hb2).below mov_olea hb3
  have hDF := deleteF_any w3 v1 w0.heap.size ys hL3 hy64 (w.heap.size + 1) now 3 (rn0.below BB3) (by decide)
  have hfr := hL3.fr
  clear HRI HCD HCL HTI hb1 hb2 hb3 ra1 rn1 rr1 hL1 B1 cn3
  have hmf : ∀ (fn : Fn) (first cap : Array Value) (w : World), (Instr.makeFunc fn first cap).run Tryz.prog w = .ok (.func fn first cap) w := fun _ _ _ _ => rfl
  go_upto_region 5 with (go_at_call 96; refine hDF.mono ?_; rintro e w4 ⟨v4, rfl, hL4, hg4⟩)
  have BB4 : Below w0.heap.size w0 w4 := BB3.trans (grown_below hg4 BB3.size hfr)
  clear hDF hL3 hg4 hmf BB3 hfr
  have ra4 := ra.below BB4
  have rn4 := rn0.below BB4
  have rr4 := rr.below BB4
  have B4 := below_and B0 le BB4
  have c1 := ra4.cell (j := 1) rfl
  generalize liv now ys = L at *
  have hL64 : L.length ≤ 64 := Nat.le_trans HRG.out.1 (by decide)
  have hF := findS_any w4 v4 L (Rs.rl hL4) vn o.2.1 (rn.mv (Mv.below B4)).1 [] HRG.out.2.1 hL64
  obtain ⟨hwk, h5⟩ := hc
  obtain ⟨t1, t2⟩ := ht
  have h8' : o.1 ≤ 8 := hwk.1.2
  have HNU := (show Hid (o.1 ≠ 7 → o.1 ≠ 8 → 1 ≤ o.2.2.2.2 ∧ o.2.2.2.2 ≤ 1000) from fun h7 h8 => num_yes hwk h5 h7 h8)
  have HZN := (show Hid (szT o.2.1) from hzo.1)
  clear hz hwk hzo
  cases hg : getR o.2.1 L with
  | none =>
    have hin : isIn o.2.1 L = false := by unfold isIn; rw [hg]; rfl
    rw [hin] at hF
    by_cases hk : o.1 = 5
    · obtain ⟨D, hDD⟩ : ∃ D, D = doS ys o who now := ⟨_, rfl⟩
      obtain ⟨an, cn, rfl, hcn⟩ := rn.form
      have hD : addS L (pos o.2.1 L) (o.2.1, [who, now + o.2.2.2.2]) = D := by rw [hDD, HK.out]; exact doT_new hg hk
      have HDD := (show Hid (D = doS ys o who now) from hDD)
      have hnu := HNU.out (by omega) (by omega)
      obtain ⟨hn1, hn2⟩ := hnu
      have HA := (show Hid (∀ u : World, Below w4.heap.size w4 u → Calls Tryz.prog 99 #[v4, .int .i64 (pos o.2.1 L : Int), .agg #[.slice an o.2.1.length cn, .int .i64 who, .int .i64 (now + o.2.2.2.2)]] u (Rs w0.heap.size u D)) from fun u hu => by
        have := addS_any u v4 w0.heap.size L (hL4.below mov_olea hu) (Nat.le_trans BB4.size hu.size) hL64 (pos o.2.1 L) pos_le [.slice an o.2.1.length cn, .int .i64 who, .int .i64 (now + o.2.2.2.2)] (o.2.1, [who, now + o.2.2.2.2]) ⟨_, _, _, rfl, rn.mv (Mv.below (below_and B4 le hu)), rfl⟩ HZN.out
        rw [hD] at this
        exact this)
      have hk' : (o.1 == 5) = true := by simp [hk]
      clear hD hDD hk hg hin
      generalize pos o.2.1 L = pp at HA hF
      go_upto_region 8 with (go_at_call 98; refine hF.mono ?_; rintro e w5 ⟨rfl, hb5⟩; have ra5 := ra4.below hb5; have d0 := ra5.cell (j := 0) rfl)
      have d1 := ra5.cell (j := 1) rfl
      have d4 := ra5.cell (j := 4) rfl
      have dn := (rn4.below hb5).cell (j := 0) rfl
      have rr5 := rr4.below hb5
      go_wp2_with (first
        | (go_at_call 99; refine (HA.out w5 hb5).mono ?_; rintro e w6 ⟨v6, vv6, rfl, hL6, t6, hb6⟩; have rr6 : Row w6 (w.heap.size + 2) 30 [.int .i64 0, .slice none 0 0] := (hb6.block _ rr.lt).trans rr5)
        | (refine wl_store rfl _ _ _ rfl (w.heap.size + 2) [.int .i64 D.2.1, vv6] rfl rfl _ _ rr6 rfl (by kernel_rfl) (one_res t6.one) ?_; intro w7 hr7 hg7))
      refine bodyPost_ret (results_tc rfl _ _ (w.heap.size + 2) _ _ (0, 0) _ (by rfl) hr7.out Tryz.underlying30 rfl (by kernel_rfl)) rfl ?_
      exact fin (x := D) hL6 t6 ((below_and BB4 (Nat.le_refl _) hb5).trans hb6) hg7 HDD.out
    · have HD := (show Hid ((L, 1, []) = doS ys o who now) by show _ = _; rw [HK.out]; exact doT_miss hg hk)
      have hk' : (o.1 == 5) = false := by simp [hk]
      clear hk
      go_wp2_with (first
        | (go_at_call 98; refine hF.mono ?_; rintro e w5 ⟨rfl, hb5⟩; have ra5 := ra4.below hb5; have d0 := ra5.cell (j := 0) rfl; have rr5 := rr4.below hb5)
        | (refine wl_store rfl _ _ _ rfl (w.heap.size + 2) [.int .i64 1, .slice none 0 0] rfl rfl _ _ rr5 rfl (by kernel_rfl) (one_res rfl) ?_; intro w7 hr7 hg7))
      refine bodyPost_ret (results_tc rfl _ _ (w.heap.size + 2) _ _ (0, 0) _ (by rfl) hr7.out Tryz.underlying30 rfl (by kernel_rfl)) rfl ?_
      exact fin (x := (L, 1, [])) (hL4.below mov_olea hb5) (OT.nil _ _) (below_and BB4 (Nat.le_refl _) hb5) hg7 HD.out
  | some u =>
    have hin : isIn o.2.1 L = true := by unfold isIn; rw [hg]; rfl
    rw [hin] at hF
    have hat := get_some hg
    go_upto_region 7 with (go_at_call 98; refine hF.mono ?_; rintro e w5 ⟨rfl, hb5⟩)
    have ra5 := ra4.below hb5
    have rn5 := rn4.below hb5
    have rr5 := rr4.below hb5
    have d0 := ra5.cell (j := 0) rfl
    have d4 := ra5.cell (j := 4) rfl
    have dn := rn5.cell (j := 0) rfl
    have BB5 := below_and BB4 (Nat.le_refl _) hb5
    have B5 := below_and B4 le hb5
    have hL5 := hL4.below mov_olea hb5
    clear hF hin hL4 hb5 ra4 rn4 rr4 BB4 B4
    have HG := (show Hid (getR o.2.1 L = some u) from hg)
    clear hg
    obtain ⟨p, hp⟩ : ∃ p, p = pos o.2.1 L := ⟨_, rfl⟩
    rw [← hp] at hat ⊢
    have HP := (show Hid (p = pos o.2.1 L) from hp)
    clear hp
    have hpl := (List.getElem?_eq_some_iff.1 hat).1
    obtain ⟨g, cap, cur, rows, rfl, k1, k2, k3, k4, k5, k6, k7, k8, k9⟩ := hL5.opnS (by omega)
    obtain ⟨rp, hrp⟩ : ∃ rp, rows[p]? = some rp := ⟨_, List.getElem?_eq_getElem (by omega)⟩
    have hol := k9.get hrp hat
    obtain ⟨sa, p1, q1, rfl, o1, hu⟩ := hol
    have hu' : u = [p1, q1] := hu
    subst hu'
    have hcell : ∀ j z, ([sa, .int .i64 p1, .int .i64 q1] : List Value)[j]? = some z → cur[p * 3 + j]? = some z := fun j z hz => by
      have hj : j < 3 := (List.getElem?_eq_some_iff.1 hz).1
      have := flat_at (j := j) k7 hrp hz
      rw [← k8, List.getElem?_take, if_pos (by omega)] at this
      exact this
    have e0 := k1.cell (hcell 0 _ rfl)
    have e1 := k1.cell (hcell 1 _ rfl)
    have e2 := k1.cell (hcell 2 _ rfl)
    have hpi : (p : Int) < (L.length : Int) := by omega
    have hlen64 : (L.length : Int) ≤ 64 := by omega
    have hmem : (o.2.1, [p1, q1]) ∈ L := List.mem_of_getElem? hat
    have hlu : now < q1 := HLU.out _ hmem
    have hrg := HRG.out.2.2 _ hmem
    have hp1 : 1 ≤ p1 ∧ p1 ≤ 4 := hrg.2.1
    have hq1 : 1 ≤ q1 ∧ q1 ≤ 2147483647 := hrg.2.2
    clear hcell
    have HT := (show Hid (∀ u, Below w5.heap.size w5 u → Calls Tryz.prog 100 #[.agg #[sa, .int .i64 p1, .int .i64 q1], .int .i64 now] u fun e w' => ∃ ax cx, e = .returned (.slice ax (tol [p1, q1] now).length cx) ∧ OT (From u.heap.size) w' (.slice ax (tol [p1, q1] now).length cx) (tol [p1, q1] now) ∧ Below u.heap.size u w' ∧ Below w5.heap.size w5 w') from fun u hu => by
      refine (told_any u [sa, .int .i64 p1, .int .i64 q1] (o.2.1, [p1, q1]) ⟨_, _, _, rfl, (o1.mv (G' := Any) (fun k hk hlt => ⟨hu.block k hlt, trivial⟩)).rt, rfl⟩ now (show 0 ≤ p1 by omega) (show p1 ≤ 2147483647 by omega) (show 0 ≤ q1 - now by omega) (show q1 - now ≤ 2147483647 by omega)).mono ?_
      rintro e w' ⟨v', rfl, ot, hb'⟩
      obtain ⟨ax, cx, rfl, _⟩ := ot.rt.form
      exact ⟨ax, cx, rfl, ot, hb', below_and hu (Nat.le_refl _) hb'⟩)
    have SK := (show Hid (∀ u, Below w5.heap.size w5 u → u.cell? ⟨g, p * 3, none⟩ = some sa ∧ u.cell? ⟨g, p * 3 + 1, none⟩ = some (.int .i64 p1) ∧ u.cell? ⟨g, p * 3 + 2, none⟩ = some (.int .i64 q1) ∧ u.cell? ⟨w.heap.size + 1, 0, none⟩ = some (.int .i64 now)) from fun u hu => ⟨keepE hu e0, keepE hu e1, keepE hu e2, keepE hu dn⟩)
    have hdw : Below w5.heap.size w5 w5.drew := ⟨rfl, rfl, rfl, Nat.le_refl _, fun _ _ => rfl⟩
    have hgn : ¬ (g = w.heap.size + 1 + 1) := by have := HS0.out; omega
    by_cases hk8 : o.1 = 8
    · have HD := (show Hid ((L, 0, tol [p1, q1] now) = doS ys o who now) by show _ = _; rw [HK.out]; exact doT_hold HG.out hk8)
      have hk' : (o.1 == 8) = true := by simp [hk8]
      clear hk8
      go_upto_region 12 with fail
      generalize tol [p1, q1] now = TL at *
      go_region_held3 (fun u => u.cell? ⟨g, p * 3, none⟩ = some sa ∧ u.cell? ⟨g, p * 3 + 1, none⟩ = some (.int .i64 p1) ∧ u.cell? ⟨g, p * 3 + 2, none⟩ = some (.int .i64 q1) ∧ u.cell? ⟨w.heap.size + 1, 0, none⟩ = some (.int .i64 now))
        (first | exact SK.out _ (by assumption) | exact ⟨set2_keep (SK.out w8 hB8).1 hgn, set2_keep (SK.out w8 hB8).2.1 hgn, set2_keep (SK.out w8 hB8).2.2.1 hgn, set2_keep (SK.out w8 hB8).2.2.2 (by show ¬ (w.heap.size + 1 = w.heap.size + 1 + 1); omega)⟩ | go_keep)
        (first | (go_at_call 100; refine (HT.out _ (by first | assumption | exact Below.refl _ _)).mono ?_; rintro e w8 ⟨ax8, cx8, rfl, t8, hb8, hB8⟩; have rr8 := rr5.below hB8; have z0 := rr8.cell (j := 0) rfl; have z1 := rr8.cell (j := 1) rfl; have y0 := rr8.frozen 0; have y1 := rr8.frozen 1))
      have hr9 := (rr8.set 0 (.int .i64 0)).set 1 (.slice ax8 TL.length cx8)
      have hg9 := grown_trans (grown_set w8 (w.heap.size + 2) 0 (.int .i64 0)) (grown_set _ (w.heap.size + 2) 1 (.slice ax8 TL.length cx8)) (.inl rfl)
      go_wp2_with fail
      refine bodyPost_ret (results_tc rfl _ _ (w.heap.size + 2) _ _ (0, 0) _ (by rfl) hr9 Tryz.underlying30 rfl (by kernel_rfl)) rfl ?_
      exact fin (x := (L, 0, TL)) (hL5.below mov_olea hB8) (t8.mv (Mv.weak BB5.size)) (below_and BB5 (Nat.le_refl _) hB8) hg9 HD.out
    have hk8' : (o.1 == 8) = false := by simp [hk8]
    by_cases hwho : p1 = who
    rotate_left
    · have HD := (show Hid ((L, 4, tol [p1, q1] now) = doS ys o who now) by show _ = _; rw [HK.out]; exact doT_held HG.out hk8 hwho)
      have hwb : (p1 != who) = true := by simp [hwho]
      clear hk8 hwho
      go_upto_region 14 with fail
      generalize tol [p1, q1] now = TL at *
      go_region_held3 (fun u => u.cell? ⟨g, p * 3, none⟩ = some sa ∧ u.cell? ⟨g, p * 3 + 1, none⟩ = some (.int .i64 p1) ∧ u.cell? ⟨g, p * 3 + 2, none⟩ = some (.int .i64 q1) ∧ u.cell? ⟨w.heap.size + 1, 0, none⟩ = some (.int .i64 now))
        (first | exact SK.out _ (by assumption) | exact ⟨set2_keep (SK.out w8 hB8).1 hgn, set2_keep (SK.out w8 hB8).2.1 hgn, set2_keep (SK.out w8 hB8).2.2.1 hgn, set2_keep (SK.out w8 hB8).2.2.2 (by show ¬ (w.heap.size + 1 = w.heap.size + 1 + 1); omega)⟩ | go_keep)
        (first | (go_at_call 100; refine (HT.out _ (by first | assumption | exact Below.refl _ _)).mono ?_; rintro e w8 ⟨ax8, cx8, rfl, t8, hb8, hB8⟩; have rr8 := rr5.below hB8; have z0 := rr8.cell (j := 0) rfl; have z1 := rr8.cell (j := 1) rfl; have y0 := rr8.frozen 0; have y1 := rr8.frozen 1))
      have hr9 := (rr8.set 0 (.int .i64 4)).set 1 (.slice ax8 TL.length cx8)
      have hg9 := grown_trans (grown_set w8 (w.heap.size + 2) 0 (.int .i64 4)) (grown_set _ (w.heap.size + 2) 1 (.slice ax8 TL.length cx8)) (.inl rfl)
      go_wp2_with fail
      refine bodyPost_ret (results_tc rfl _ _ (w.heap.size + 2) _ _ (0, 0) _ (by rfl) hr9 Tryz.underlying30 rfl (by kernel_rfl)) rfl ?_
      exact fin (x := (L, 4, TL)) (hL5.below mov_olea hB8) (t8.mv (Mv.weak BB5.size)) (below_and BB5 (Nat.le_refl _) hB8) hg9 HD.out
    subst hwho
    have hwb : (p1 != p1) = false := by simp
    have hone : ∀ z ∈ rows.flatten, z.oneCell' = true := by
      intro z hz
      obtain ⟨q, hq, hzq⟩ := List.mem_flatten.1 hz
      obtain ⟨j, hj, rfl⟩ := List.getElem_of_mem hq
      exact one_RS (k9.get (List.getElem?_eq_getElem hj) (List.getElem?_eq_getElem (by omega))).lea z hzq
    have fin2 : ∀ {w4' w5' : World} {vv : Value} {c : Int} {zs : List PEnt}, LB OLea 75 3 w0.heap.size w4' vv zs → w5.grownBy w4' (some g) → w4'.grownBy w5' (some (w.heap.size + 2)) → (zs, c, []) = doS ys o p1 now → Rs w.heap.size w (doS ys o p1 now) (.returned (.tuple #[vv, .agg #[.int .i64 c, .slice none 0 0]])) w5' := by
      intro w4' w5' vv c zs hL hg4' hg5' e
      exact fin (x := (zs, c, [])) hL (OT.nil _ _) (BB5.trans (grown_below hg4' BB5.size (fun k hk => by cases hk; exact k5))) hg5' e
    have FIN2 := (show Hid (∀ {w4' w5' : World} {vv : Value} {c : Int} {zs : List PEnt}, LB OLea 75 3 w0.heap.size w4' vv zs → w5.grownBy w4' (some g) → w4'.grownBy w5' (some (w.heap.size + 2)) → (zs, c, []) = doS ys o p1 now → Rs w.heap.size w (doS ys o p1 now) (.returned (.tuple #[vv, .agg #[.int .i64 c, .slice none 0 0]])) w5') from fin2)
    clear fin2 fin HT SK hdw
    by_cases hk7 : o.1 = 7
    · have HD := (show Hid ((L.take p ++ L.drop (p + 1), 0, []) = doS ys o p1 now) by show _ = _; rw [HK.out, HP.out]; exact doT_del HG.out hk8 rfl hk7)
      have hk7' : (o.1 == 7) = true := by simp [hk7]
      have hDe := deleteS_any w5 g cap L.length p cur rows.flatten k1 k2 (by rw [flat_len k7, k6]) k8 hpl k3 k4 hL64 hone
      clear hk8 hk7
      go_wp2_with (first
        | (go_at_call 101; refine hDe.mono ?_; rintro e w6 ⟨rfl, hg6, cur', x1, x2, x3⟩; have rr6 := rr5.grown hg6 (fun e => by injection e with e; exact hgn (by omega)); have D1 := (show Hid (Row w6 g 75 cur' ∧ cur'.length = cap * 3 ∧ cur'.take ((L.length - 1) * 3) = rows.flatten.take (p * 3) ++ rows.flatten.drop ((p + 1) * 3)) from ⟨x1, x2, x3⟩); clear x1 x2 x3)
        | (refine wl_store rfl _ _ _ rfl (w.heap.size + 2) [.int .i64 0, .slice none 0 0] rfl rfl _ _ rr6 rfl (by kernel_rfl) (one_res rfl) ?_; intro w7 hr7 hg7))
      refine bodyPost_ret (results_tc rfl _ _ (w.heap.size + 2) _ _ (0, 0) _ (by rfl) hr7.out Tryz.underlying30 rfl (by kernel_rfl)) rfl ?_
      obtain ⟨x1, x2, x3⟩ := D1.out
      refine FIN2.out ?_ hg6 hg7 HD.out
      have hmv : Mv (fun b => w0.heap.size ≤ b ∧ b ≠ g) (fun b => w0.heap.size ≤ b ∧ b ≠ g) w5 w6 := fun j hj hlt => ⟨hg6.block j hlt (fun e => by injection e with e; exact hj.2 e), hj⟩
      refine LB.mkS x1 x2 (by omega) k4 k5 (rows := rows.take p ++ rows.drop (p + 1)) (by rw [List.length_append, List.length_take, List.length_drop]; omega) (fun q hq => ?_) ?_ (All2.app ((k9.take p).mono fun q b hq => mov_olea _ _ _ _ _ _ hq hg6.size hmv) ((k9.drop (p + 1)).mono fun q b hq => mov_olea _ _ _ _ _ _ hq hg6.size hmv))
      · rcases List.mem_append.1 hq with hq | hq
        · exact k7 q (List.mem_of_mem_take hq)
        · exact k7 q (List.mem_of_mem_drop hq)
      · rw [x3, flat_take k7 p (by omega), flat_drop k7 (p + 1) (by omega), List.flatten_append]
    · have HD := (show Hid ((L.set p (o.2.1, [p1, now + o.2.2.2.2]), 0, []) = doS ys o p1 now) by show _ = _; rw [HK.out, HP.out]; exact doT_set HG.out hk8 rfl hk7)
      have hk7' : (o.1 == 7) = false := by simp [hk7]
      obtain ⟨hn1, hn2⟩ := HNU.out hk7 hk8
      have hpc : p * 3 + 2 < cur.length := by omega
      have HSET := (show Hid (∀ w2 : World, w5.grownBy w2 (some g) → Row w2 g 75 (cur.set (p * 3 + 2) (.int .i64 (now + o.2.2.2.2))) → LB OLea 75 3 w0.heap.size w2 (.slice (some ⟨g, 0, none⟩) L.length cap) (L.set p (o.2.1, [p1, now + o.2.2.2.2]))) from fun w2 hg2 hr2 => LB.set3 k1 k2 k3 k4 k5 k6 k7 k8 k9 hat hrp hg2 hr2)
      clear hk8 hk7
      go_wp2_with (first
        | (refine wl_set rfl _ _ _ rfl g (p * 3 + 2) _ rfl rfl _ _ k1 hpc (by kernel_rfl) rfl ?_; intro w6 hr6 hg6; have rr6 := rr5.grown hg6 (fun e => by injection e with e; exact hgn (by omega)))
        | (refine wl_store rfl _ _ _ rfl (w.heap.size + 2) [.int .i64 0, .slice none 0 0] rfl rfl _ _ rr6 rfl (by kernel_rfl) (one_res rfl) ?_; intro w7 hr7 hg7))
      refine bodyPost_ret (results_tc rfl _ _ (w.heap.size + 2) _ _ (0, 0) _ (by rfl) hr7.out Tryz.underlying30 rfl (by kernel_rfl)) rfl ?_
      exact FIN2.out (HSET.out _ hg6 hr6.out) hg6 hg7 HD.out
end Go.Proofs.YteafgdidjdfiiaaGreat
end

section
set_option linter.unusedVariables false
set_option linter.unusedSimpArgs false
namespace Go.Proofs.YteafgdidjdfiiaaGreat
open Go.RowKit Oct Kvl

/-- The end of a call that gives a number and a result. -/
def Rl (w : World) (x : Int × Int × List Int) (e : Ending) (w' : World) : Prop :=
  ∃ vv, e = .returned (.tuple #[.int .i64 x.1, .agg #[.int .i64 x.2.1, vv]]) ∧ OT (From w.heap.size) w' vv x.2.2 ∧ Below w.heap.size w w'

set_option maxRecDepth 10000 in
set_option maxHeartbeats 4000000 in
/-- session.Last. -/
theorem last_any (w : World) (r : List Value) (a : PApp) (h : RApp Any w r a) (hz : szL 48 szN a.2.2.2) (cc : Int) :
    Calls Tryz.prog 50 #[.agg r.toArray, .int .i64 cc] w (Rl w (lasN a.2.2.2 cc)) := by
  obtain ⟨ve, vl, vs, rfl, _, _, h3⟩ := h
  generalize a.2.2.2 = ys at *
  obtain ⟨w2, hw2⟩ : ∃ w2, w2 = (w.alloc (.cells #[.int .i64 a.1, ve, vl, vs] 27)).alloc (.cells #[.int .i64 0, .slice none 0 0] 30) := ⟨_, rfl⟩
  have ra : Row w2 w.heap.size 27 [.int .i64 a.1, ve, vl, vs] := by rw [hw2]; exact rowA (Row.new w 27 _) _
  have rr : Row w2 (w.heap.size + 1) 30 [.int .i64 0, .slice none 0 0] := by
    rw [hw2]
    have := Row.new (w.alloc (.cells #[.int .i64 a.1, ve, vl, vs] 27)) 30 [.int .i64 0, .slice none 0 0]
    simpa using this
  have hB : Below w.heap.size w w2 := by rw [hw2]; exact ((Below.refl _ w).alloc (Nat.le_refl _) _).alloc (by simp) _
  have hsz : w2.heap.size = w.heap.size + 2 := by rw [hw2]; simp
  have HZ := (show Hid (∀ y ∈ ys, szN y) from hz.2)
  have h32 := h3.mv mov_ses hB.size (Mv.below hB)
  clear h3 hz
  have c3 := ra.cell (j := 3) rfl
  have fin0 : ∀ {w5 w6 : World}, Below w2.heap.size w2 w5 → w5.grownBy w6 (some (w.heap.size + 1)) → lasN ys cc = (0, 0, []) → Rl w (lasN ys cc) (.returned (.tuple #[.int .i64 0, .agg #[.int .i64 0, .slice none 0 0]])) w6 := by
    intro w5 w6 hb hg e
    have hB5 := below_and hB (Nat.le_refl _) hb
    rw [e]
    exact ⟨_, rfl, OT.nil _ _, hB5.trans (grown_below hg hB5.size (fun k hk => by cases hk; omega))⟩
  by_cases hl : 0 < ys.length
  rotate_left
  · obtain rfl : ys = [] := List.eq_nil_of_length_eq_zero (by omega)
    obtain ⟨ao, cap, hvs, _⟩ := h32.form
    have hvs : vs = .slice ao 0 cap := hvs
    subst hvs
    go_enter Tryz.func50, Tryz.ntmps50
    go_upto_region 1 with fail
    rw [← hw2]
    clear hw2
    go_wp2_with fail
    refine wp_loop_rounds 1 ?_; rw [rounds_succ]
    go_wp2_with (refine wl_store rfl _ _ _ rfl (w.heap.size + 1) [.int .i64 0, .slice none 0 0] rfl rfl _ _ rr rfl (by kernel_rfl) (one_res rfl) ?_; intro w7 hr7 hg7)
    refine bodyPost_ret (results_tc rfl _ _ (w.heap.size + 1) _ _ (0, 0) _ (by rfl) hr7.out Tryz.underlying30 rfl (by kernel_rfl)) rfl ?_
    exact fin0 (Below.refl _ _) hg7 rfl
  obtain ⟨b, off, cap, rfl, hc, hm, _, hb, hx⟩ := h32.at hl
  have HX := (show Hid (∀ (i : Nat) (a : PEnt), ys[i]? = some a → ∃ r, r.length = 4 ∧ w2.rangeAt b (off + i * 4) r ∧ RSes Any w2 r a) from hx)
  have hlm : (ys.length : Int) ≤ 9223372036854775807 := by unfold maxLen at hm; omega
  have HS := (show Hid (w2.heap.size = w.heap.size + 2) from hsz)
  have FIN0 := (show Hid (∀ {w5 w6 : World}, Below w2.heap.size w2 w5 → w5.grownBy w6 (some (w.heap.size + 1)) → lasN ys cc = (0, 0, []) → Rl w (lasN ys cc) (.returned (.tuple #[.int .i64 0, .agg #[.int .i64 0, .slice none 0 0]])) w6) from fin0)
  clear hx h32 hm hsz fin0
  obtain ⟨N, hN⟩ : ∃ n, n = ys.length := ⟨_, rfl⟩
  rw [← hN] at hlm hl hc c3 ra ⊢
  rw [← hN] at hw2
  have HN := (show Hid (ys.length = N) from hN.symm)
  clear hN
  go_enter Tryz.func50, Tryz.ntmps50
  go_upto_region 1 with fail
  rw [← hw2]
  clear hw2
  go_wp2_with fail
  go_loopw [11] (fun i wr => ∃ q : Nat, q ≤ N ∧ i = .int .i64 q ∧ Below w2.heap.size w2 wr ∧ Hid (∀ (j : Nat) (y : PEnt), j < q → ys[j]? = some y → y.1 ≠ [cc])) (fun i _ => N - (intOf i).toNat)
  case atStart => exact ⟨0, by omega, rfl, Below.refl _ _, fun j y hj => by omega⟩
  case round =>
    obtain ⟨q, hq, rfl, hBr, hI⟩ := hrel
    by_cases hql : q < N
    · obtain ⟨x, hx⟩ : ∃ x, ys[q]? = some x := ⟨_, List.getElem?_eq_getElem (by have := HN.out; omega)⟩
      obtain ⟨r, _, hrng, c1, d1, k1, s1, l1, rfl, t1, t2⟩ := HX.out q x hx
      have hrng := rangeAt_block hrng (hBr.block b hb)
      obtain ⟨a1, cp1, rfl, hc1⟩ := t1.form
      have hrow0 := Row.new wr 77 [.int .i64 0, .int .i64 0, .int .i64 0, .slice none 0 0]
      have HP := (show Hid (x = ([c1], d1 :: k1 :: l1)) from t2)
      have HXX := (show Hid (ys[q]? = some x) from hx)
      have hone := onN4 (c := c1) (d := d1) (k := k1) t1.one
      have hzx : szT l1 := by have h := HZ.out x (List.mem_of_getElem? hx); rw [t2] at h; exact h
      have rrr := rr.below hBr
      have hne : ¬ (wr.heap.size = w.heap.size + 1) := by have := hBr.size; have := HS.out; omega
      clear hx t2
      by_cases g1 : c1 = cc
      · have g1' : (c1 == cc) = true := by simp [g1]
        have HH := (show Hid (lasN ys cc = (d1, k1, l1)) by
          show _ = _
          unfold lasN
          rw [fnd_at hI.out HXX.out (by rw [HP.out, g1]), HP.out]
          rfl)
        clear g1
        have HCR := (show Hid (∀ u, Below wr.heap.size wr u → Calls Tryz.prog 73 #[.agg #[.int .i64 k1, .slice a1 l1.length cp1]] u fun e w' => ∃ ax cx, e = .returned (.agg #[.int .i64 k1, .slice ax l1.length cx]) ∧ OT (From u.heap.size) w' (.slice ax l1.length cx) l1 ∧ Below u.heap.size u w') from fun u hu => (cloneResult_any u k1 _ l1 (t1.1.below (below_and hBr (Nat.le_refl _) hu)) hzx).mono fun e w' ⟨v', e1, e2, e3⟩ => by
          obtain ⟨ax, cx, rfl, _⟩ := e2.rt.form
          exact ⟨ax, cx, e1, e2, e3⟩)
        clear t1
        generalize l1.length = L1 at *
        go_upto_region 5 with (first
          | (refine wpList_load_mid rfl _ _ rfl b (off + q * 4) rfl [.int .i64 c1, .int .i64 d1, .int .i64 k1, .slice a1 L1 cp1] _ hrng Tryz.underlying77 rfl (by kernel_rfl) ?_)
          | (refine wl_store rfl _ _ _ rfl wr.heap.size [.int .i64 c1, .int .i64 d1, .int .i64 k1, .slice a1 L1 cp1] rfl rfl _ _ hrow0 rfl (by kernel_rfl) hone ?_; intro w5 hr5 hg5; have hb5 : Below wr.heap.size wr w5 := (below_alloc wr _).trans (grown_below hg5 (by simp) (fun k hk => by cases hk; exact Nat.le_refl _)); have e0 := hr5.out.cell (j := 0) rfl))
        have SK := (show Hid (∀ u, Below w5.heap.size w5 u → u.cell? ⟨wr.heap.size, 1, none⟩ = some (.int .i64 d1) ∧ u.cell? ⟨wr.heap.size, 2, none⟩ = some (.int .i64 k1) ∧ u.cell? ⟨wr.heap.size, 3, none⟩ = some (.slice a1 L1 cp1)) from fun u hu => ⟨(hr5.out.below hu).cell (j := 1) rfl, (hr5.out.below hu).cell (j := 2) rfl, (hr5.out.below hu).cell (j := 3) rfl⟩)
        have HCR2 := (show Hid (∀ u, Below w5.heap.size w5 u → Calls Tryz.prog 73 #[.agg #[.int .i64 k1, .slice a1 L1 cp1]] u fun e w' => ∃ ax cx, e = .returned (.agg #[.int .i64 k1, .slice ax L1 cx]) ∧ OT (From u.heap.size) w' (.slice ax L1 cx) l1 ∧ Below u.heap.size u w' ∧ Below w5.heap.size w5 w') from fun u hu => (HCR.out u (below_and hb5 (Nat.le_refl _) hu)).mono fun e w' ⟨ax, cx, e1, e2, e3⟩ => ⟨ax, cx, e1, e2, e3, below_and hu (Nat.le_refl _) e3⟩)
        obtain ⟨e1, e2, e3⟩ := SK.out w5 (Below.refl _ _)
        have hdw : Below w5.heap.size w5 w5.drew := ⟨rfl, rfl, rfl, Nat.le_refl _, fun _ _ => rfl⟩
        have rr5 := rrr.below hb5
        generalize hgb : wr.heap.size = gb at *
        go_region_held3 (fun u => u.cell? ⟨gb, 1, none⟩ = some (.int .i64 d1) ∧ u.cell? ⟨gb, 2, none⟩ = some (.int .i64 k1) ∧ u.cell? ⟨gb, 3, none⟩ = some (.slice a1 L1 cp1))
          (first | exact SK.out _ (by assumption) | exact ⟨set2_keep (SK.out w8 hB8).1 hne, set2_keep (SK.out w8 hB8).2.1 hne, set2_keep (SK.out w8 hB8).2.2 hne⟩ | go_keep)
          (first | (go_at_call 73; refine (HCR2.out _ (by first | assumption | exact Below.refl _ _)).mono ?_; rintro e w8 ⟨ax8, cx8, rfl, t8, hb8, hB8⟩; have rr8 := rr5.below hB8; have z0 := rr8.cell (j := 0) rfl; have z1 := rr8.cell (j := 1) rfl; have y0 := rr8.frozen 0; have y1 := rr8.frozen 1))
        have hr9 := (rr8.set 0 (.int .i64 k1)).set 1 (.slice ax8 L1 cx8)
        have hg9 := grown_trans (grown_set w8 (w.heap.size + 1) 0 (.int .i64 k1)) (grown_set _ (w.heap.size + 1) 1 (.slice ax8 L1 cx8)) (.inl rfl)
        go_wp2_with fail
        refine bodyPost_ret (results_tc rfl _ _ (w.heap.size + 1) _ _ (0, 0) _ (by rfl) hr9 Tryz.underlying30 rfl (by kernel_rfl)) rfl ?_
        subst hgb
        have t8 : OT (From w5.heap.size) w8 (.slice ax8 L1 cx8) l1 := t8
        have hB8' := below_and (below_and hB (Nat.le_refl _) hBr) (Nat.le_refl _) (below_and hb5 (Nat.le_refl _) hB8)
        rw [HH.out]
        have hs5 := hb5.size
        have hsr := hBr.size
        have hs2 := HS.out
        exact ⟨_, rfl, t8.mv (Mv.from hg9 (by omega) (by omega)), hB8'.trans (grown_below hg9 hB8'.size (fun k hk => by cases hk; omega))⟩
      · have g1' : (c1 == cc) = false := by simp [g1]
        have G1 := (show Hid (¬ c1 = cc) from g1)
        clear g1
        go_wp2_with (first
          | (refine wpList_load_mid rfl _ _ rfl b (off + q * 4) rfl [.int .i64 c1, .int .i64 d1, .int .i64 k1, .slice a1 l1.length cp1] _ hrng Tryz.underlying77 rfl (by kernel_rfl) ?_)
          | (refine wl_store rfl _ _ _ rfl wr.heap.size [.int .i64 c1, .int .i64 d1, .int .i64 k1, .slice a1 l1.length cp1] rfl rfl _ _ hrow0 rfl (by kernel_rfl) hone ?_; intro w5 hr5 hg5; have hb5 : Below wr.heap.size wr w5 := (below_alloc wr _).trans (grown_below hg5 (by simp) (fun k hk => by cases hk; exact Nat.le_refl _)); have e0 := hr5.out.cell (j := 0) rfl))
        go_roundw
        case rel =>
          refine ⟨q + 1, by omega, by go_num, below_and hBr (Nat.le_refl _) hb5, fun j y hj hy => ?_⟩
          rcases Nat.lt_or_ge j q with h1 | h1
          · exact hI.out j y h1 hy
          · obtain rfl : j = q := by omega
            rw [HXX.out] at hy
            cases hy
            rw [HP.out]
            intro e
            exact G1.out (by simpa using e)
        case measure => simp [intOf]; omega
    · have hqd : decide ((q : Int) < N) = false := by simp; omega
      have HH := (show Hid (lasN ys cc = (0, 0, [])) by
        show _ = _
        unfold lasN
        rw [fnd_no fun j y hy => hI.out j y (by have := HN.out; have := (List.getElem?_eq_some_iff.1 hy).1; omega) hy])
      have rrr := rr.below hBr
      go_wp2_with (refine wl_store rfl _ _ _ rfl (w.heap.size + 1) [.int .i64 0, .slice none 0 0] rfl rfl _ _ rrr rfl (by kernel_rfl) (one_res rfl) ?_; intro w7 hr7 hg7)
      refine bodyPost_ret (results_tc rfl _ _ (w.heap.size + 1) _ _ (0, 0) _ (by rfl) hr7.out Tryz.underlying30 rfl (by kernel_rfl)) rfl ?_
      exact FIN0.out hBr hg7 HH.out
end Go.Proofs.YteafgdidjdfiiaaGreat
end

section
set_option linter.unusedVariables false
set_option linter.unusedSimpArgs false
namespace Go.Proofs.YteafgdidjdfiiaaGreat
open Go.RowKit Oct Kvl

/-- Of what was there only block b and v's own row may have turned. -/
structure Tw (b : Nat) (v : Value) (w w' : World) : Prop where
  os : w'.os = w.os
  tape : w'.tape = w.tape
  output : w'.output = w.output
  size : w.heap.size ≤ w'.heap.size
  block : ∀ k, k < w.heap.size → k ≠ b → v.ownBlock ≠ some k → w'.heap[k]? = w.heap[k]?
theorem Tw.of_below {b : Nat} {v : Value} {w w' : World} (h : Below w.heap.size w w') : Tw b v w w' := ⟨h.os, h.tape, h.output, h.size, fun k hk _ _ => h.block k hk⟩
theorem Tw.of_b {b : Nat} {v : Value} {w w' : World} (h : w.grownBy w' (some b)) : Tw b v w w' := ⟨h.os, h.tape, h.output, h.size, fun k hk h1 _ => h.block k hk (fun e => h1 (by injection e))⟩
theorem Tw.of_v {b : Nat} {v : Value} {w w' : World} (h : w.grownBy w' v.ownBlock) : Tw b v w w' := ⟨h.os, h.tape, h.output, h.size, fun k hk _ h2 => h.block k hk (fun e => h2 e.symm)⟩
theorem Tw.trans {b : Nat} {v : Value} {w w1 w2 : World} (h : Tw b v w w1) (h' : Tw b v w1 w2) : Tw b v w w2 :=
  ⟨h'.os.trans h.os, h'.tape.trans h.tape, h'.output.trans h.output, Nat.le_trans h.size h'.size, fun k hk h1 h2 => (h'.block k (Nat.lt_of_lt_of_le hk h.size) h1 h2).trans (h.block k hk h1 h2)⟩
theorem Tw.new {b : Nat} {v : Value} {w w1 w2 : World} (h : Tw b v w w1) {n : Nat} (h' : w1.grownBy w2 (some n)) (hn : w.heap.size ≤ n) : Tw b v w w2 :=
  ⟨h'.os.trans h.os, h'.tape.trans h.tape, h'.output.trans h.output, Nat.le_trans h.size h'.size, fun k hk h1 h2 => (h'.block k (Nat.lt_of_lt_of_le hk h.size) (fun e => by injection e with e; omega)).trans (h.block k hk h1 h2)⟩
/-- The list may have moved into memory that is new. -/
theorem Tw.moved {b : Nat} {v v1 : Value} {w w1 w2 : World} (h : Tw b v w w1) (hv : v1.ownBlock = v.ownBlock ∨ Fr w.heap.size v1) (h' : Tw b v1 w1 w2) : Tw b v w w2 :=
  ⟨h'.os.trans h.os, h'.tape.trans h.tape, h'.output.trans h.output, Nat.le_trans h.size h'.size, fun k hk h1 h2 => (h'.block k (Nat.lt_of_lt_of_le hk h.size) h1 (fun e => by
    rcases hv with hv | hv
    · exact h2 (hv ▸ e)
    · have := hv k e; omega)).trans (h.block k hk h1 h2)⟩
theorem Tw.bel {b : Nat} {v : Value} {w w' : World} (h : Tw b v w w') {B : Nat} (hb : B ≤ b) (hv : Fr B v) (hB : B ≤ w.heap.size) : Below B w w' :=
  ⟨h.os, h.tape, h.output, h.size, fun k hk => h.block k (Nat.lt_of_lt_of_le hk hB) (by omega) (fun e => by have := hv k e; omega)⟩
theorem LB.apart {α : Type} {R : (Nat → Prop) → World → List Value → α → Prop} {T : TypeId} {k B : Nat} {w : World} {v : Value} {ys : List α} (h : LB R T k B w v ys) {j : Nat} {t : TypeId} {xs : List Value} (hr : Row w j t xs) (ht : t ≠ T) : v.ownBlock ≠ some j := fun e => by
  obtain ⟨rows, r0, hown, hfr, hall⟩ := h
  rcases hown.2 with ⟨rfl, _⟩ | ⟨g, cap, cur, rfl, _, hgg, _⟩
  · simp [Value.ownBlock] at e
  · simp [Value.ownBlock] at e
    subst e
    unfold Row at hr
    rw [hr] at hgg
    simp at hgg
    exact ht hgg.2
/-- Two lists of unlike kinds lie in unlike rows. -/
theorem LB.twain {α β : Type} {R : (Nat → Prop) → World → List Value → α → Prop} {S : (Nat → Prop) → World → List Value → β → Prop} {T U : TypeId} {k l B C : Nat} {w : World} {v u : Value} {ys : List α} {zs : List β} (h : LB R T k B w v ys) (h' : LB S U l C w u zs) (ht : U ≠ T) : ∀ j, u.ownBlock = some j → v.ownBlock ≠ some j := fun j hj e => by
  obtain ⟨rows, r0, hown, hfr, hall⟩ := h
  obtain ⟨rows', r0', hown', hfr', hall'⟩ := h'
  rcases hown.2 with ⟨rfl, _⟩ | ⟨g, cap, cur, rfl, _, hgg, _⟩
  · simp [Value.ownBlock] at e
  · rcases hown'.2 with ⟨rfl, _⟩ | ⟨g', cap', cur', rfl, _, hgg', _⟩
    · simp [Value.ownBlock] at hj
    · simp [Value.ownBlock] at e hj
      subst e hj
      rw [hgg] at hgg'
      simp at hgg'
      exact ht hgg'.2.symm
theorem Tw.row {b : Nat} {v : Value} {w w' : World} (h : Tw b v w w') {k : Nat} {t : TypeId} {xs : List Value} (hr : Row w k t xs) (hk : k ≠ b) (hv : v.ownBlock ≠ some k) : Row w' k t xs := (h.block k hr.lt hk hv).trans hr
theorem ot_apart {α : Type} {R : (Nat → Prop) → World → List Value → α → Prop} {T : TypeId} {k B : Nat} {w : World} {v : Value} {ys : List α} (h : LB R T k B w v ys) (ht : T ≠ 5) {G : Nat → Prop} {u : Value} {l : List Int} (ho : OT G w u l) : ∀ j, u.ownBlock = some j → v.ownBlock ≠ some j := fun j hj e => by
  rcases ho.1.2 with ⟨rfl, _⟩ | ⟨g, cap, cur, rfl, _, hg, _⟩
  · simp [Value.ownBlock] at hj
  · simp [Value.ownBlock] at hj
    subst hj
    obtain ⟨rows, r0, hown, hfr, hall⟩ := h
    rcases hown.2 with ⟨rfl, _⟩ | ⟨g', cap', cur', rfl, _, hgg', _⟩
    · simp [Value.ownBlock] at e
    · simp [Value.ownBlock] at e
      subst e
      rw [hg] at hgg'
      simp at hgg'
      exact ht hgg'.2.symm
theorem Tw.ot {b : Nat} {v : Value} {w w' : World} (h : Tw b v w w') {B : Nat} {ys : List PEnt} (hs : LB OSes 77 4 B w v ys) {row : List Value} (hb : Row w b 27 row) {G : Nat → Prop} {u : Value} {l : List Int} (ho : OT G w u l) : OT G w' u l := by
  have h1 := ho.ne hb (by decide)
  exact ⟨ho.1.at_block fun k hk => h.block k (ho.1.lt k hk) (h1.2.2 k hk).2 (ot_apart hs (by decide) ho k hk), ho.2.1, ho.2.2⟩
theorem Tw.ent {b : Nat} {v : Value} {w w' : World} (h : Tw b v w w') {B : Nat} {ys : List PEnt} (hs : LB OSes 77 4 B w v ys) {row : List Value} (hb : Row w b 27 row) {C : Nat} {u : Value} {zs : List PEnt} (he : LB OEnt 73 2 C w u zs) : LB OEnt 73 2 C w' u zs := by
  have n1 := he.apart hb (by decide)
  have n2 := hs.twain he (by decide)
  obtain ⟨rows, r0, hown, hfr, hall⟩ := he
  refine ⟨rows, r0, ⟨hown.1, ?_⟩, hfr, hall.mono fun q x hq => ?_⟩
  · rcases hown.2 with h0 | ⟨g, cap, cur, h1, h2, h3, h4⟩
    · exact .inl h0
    · exact .inr ⟨g, cap, cur, h1, h2, (h.block g (Array.getElem?_eq_some_iff.1 h3).1 (fun e => n1 (by rw [h1, ← e]; rfl)) (n2 g (by rw [h1]; rfl))).trans h3, h4⟩
  · obtain ⟨p, q, rfl, o1, o2⟩ := hq
    exact ⟨p, q, rfl, h.ot hs hb o1, h.ot hs hb o2⟩
theorem Tw.lea {b : Nat} {v : Value} {w w' : World} (h : Tw b v w w') {B : Nat} {ys : List PEnt} (hs : LB OSes 77 4 B w v ys) {row : List Value} (hb : Row w b 27 row) {C : Nat} {u : Value} {zs : List PEnt} (he : LB OLea 75 3 C w u zs) : LB OLea 75 3 C w' u zs := by
  have n1 := he.apart hb (by decide)
  have n2 := hs.twain he (by decide)
  obtain ⟨rows, r0, hown, hfr, hall⟩ := he
  refine ⟨rows, r0, ⟨hown.1, ?_⟩, hfr, hall.mono fun q x hq => ?_⟩
  · rcases hown.2 with h0 | ⟨g, cap, cur, h1, h2, h3, h4⟩
    · exact .inl h0
    · exact .inr ⟨g, cap, cur, h1, h2, (h.block g (Array.getElem?_eq_some_iff.1 h3).1 (fun e => n1 (by rw [h1, ← e]; rfl)) (n2 g (by rw [h1]; rfl))).trans h3, h4⟩
  · obtain ⟨p, q', q, rfl, o1, o2⟩ := hq
    exact ⟨p, q', q, rfl, h.ot hs hb o1, o2⟩
theorem LB.grownN {B : Nat} {w w' : World} {v : Value} {ys : List PEnt} {b : Nat} {t : TypeId} {xs : List Value} (h : LB OSes 77 4 B w v ys) (hr : Row w b t xs) (h1 : t ≠ 5) (h2 : t ≠ 77) (hg : w.grownBy w' (some b)) : LB OSes 77 4 B w' v ys := by
  have hne := h.apart hr h2
  obtain ⟨rows, r0, hown, hfr, hall⟩ := h
  refine ⟨rows, r0, World.ownsRow.kept hown hg ?_, hfr, hall.mono fun q x hq => ?_⟩
  · cases hv : v.ownBlock with
    | none => exact .inl rfl
    | some k => exact .inr fun e => hne (hv.trans e)
  · obtain ⟨c, d, k, a, l, rfl, o1, o2⟩ := hq
    have mv : Mv (fun k => (B ≤ k ∧ v.ownBlock ≠ some k) ∧ k ≠ b) (fun k => B ≤ k ∧ v.ownBlock ≠ some k) w w' := fun k hk hlt => ⟨hg.block k hlt (fun e => hk.2 (by injection e)), hk.1⟩
    exact ⟨c, d, k, a, l, rfl, (o1.ne hr h1).mv mv, o2⟩

theorem LB.opnN {B : Nat} {w : World} {v : Value} {ys : List PEnt} (h : LB OSes 77 4 B w v ys) (hp : 0 < ys.length) : ∃ (g cap : Nat) (cur : List Value) (rows : List (List Value)), v = .slice (some ⟨g, 0, none⟩) ys.length cap ∧ Row w g 77 cur ∧ cur.length = cap * 4 ∧ ys.length ≤ cap ∧ cap ≤ maxLen ∧ B ≤ g ∧ rows.length = ys.length ∧ (∀ r ∈ rows, r.length = 4) ∧ cur.take (ys.length * 4) = rows.flatten ∧ All2 (OSes (fun b => B ≤ b ∧ b ≠ g) w) rows ys := by
  obtain ⟨rows, h0, hown, hfr, hall⟩ := h
  have hlen := hall.len
  rw [hlen] at hown
  rcases hown.2 with ⟨_, h4⟩ | ⟨g, cap, cur, rfl, _, hg, hc1, hc2, hc3, hc4⟩
  · omega
  · exact ⟨g, cap, cur.toList, rows, rfl, by unfold Row; simpa using hg, by simpa using hc3, hc1, hc2, hfr g rfl, hlen, h0, hc4, hall.mono fun q b hq => mov_oses _ _ _ _ _ _ hq (Nat.le_refl _) fun k hk _ => ⟨rfl, hk.1, fun e => hk.2 (by simp [Value.ownBlock, e])⟩⟩
theorem LB.mkN {B : Nat} {w : World} {ys : List PEnt} {g cap n : Nat} {cur : List Value} {rows : List (List Value)} (h1 : Row w g 77 cur) (h2 : cur.length = cap * 4) (h3 : n ≤ cap) (h4 : cap ≤ maxLen) (h5 : B ≤ g) (h6 : rows.length = n) (h7 : ∀ r ∈ rows, r.length = 4) (h8 : cur.take (n * 4) = rows.flatten)
    (h9 : All2 (OSes (fun b => B ≤ b ∧ b ≠ g) w) rows ys) : LB OSes 77 4 B w (.slice (some ⟨g, 0, none⟩) n cap) ys :=
  ⟨rows, h7, ⟨flat_len h7, .inr ⟨g, cap, cur.toArray, by rw [h6], Nat.zero_le _, h1, by omega, h4, by simpa using h2, by rw [h6]; simpa using h8⟩⟩, fr_at _ _ _ _ h5, h9.mono fun q b hq => mov_oses _ _ _ _ _ _ hq (Nat.le_refl _) fun k hk _ => ⟨rfl, hk.1, fun e => hk.2 (by simp [Value.ownBlock] at e; exact e.symm)⟩⟩
theorem set_split {α : Type} {l : List α} {p : Nat} (h : p < l.length) (y : α) : l.set p y = l.take p ++ y :: l.drop (p + 1) := by
  rw [List.set_eq_take_append_cons_drop, if_pos h]
/-- A record in the place of another. -/
theorem LB.putN {B : Nat} {w w2 : World} {ys : List PEnt} {g cap p : Nat} {cur : List Value} {rows : List (List Value)} {r' : List Value} {x' : PEnt} (h1 : Row w g 77 cur) (h2 : cur.length = cap * 4) (h3 : ys.length ≤ cap) (h4 : cap ≤ maxLen) (h5 : B ≤ g) (h6 : rows.length = ys.length) (h7 : ∀ r ∈ rows, r.length = 4) (h8 : cur.take (ys.length * 4) = rows.flatten)
    (h9 : All2 (OSes (fun b => B ≤ b ∧ b ≠ g) w) rows ys) (hp : p < ys.length) (hr' : OSes (fun b => B ≤ b ∧ b ≠ g) w r' x') (hg2 : w.grownBy w2 (some g)) (hr2 : Row w2 g 77 (splice cur (p * 4) r')) : LB OSes 77 4 B w2 (.slice (some ⟨g, 0, none⟩) ys.length cap) (ys.set p x') := by
  have hl : r'.length = 4 := by obtain ⟨c, d, k, a, l, rfl, _⟩ := hr'; rfl
  have hmv : Mv (fun b => B ≤ b ∧ b ≠ g) (fun b => B ≤ b ∧ b ≠ g) w w2 := fun j hj hlt => ⟨hg2.block j hlt (fun e => by injection e with e; exact hj.2 e), hj⟩
  obtain ⟨b0, hb0⟩ : ∃ b0, rows[p]? = some b0 := ⟨_, List.getElem?_eq_getElem (by omega)⟩
  have hsp : rows = rows.take p ++ b0 :: rows.drop (p + 1) := by rw [← drop_cons hb0, List.take_append_drop]
  have hc : ys.length * 4 ≤ cur.length := by omega
  have hA : ∀ r ∈ rows.take p, r.length = 4 := fun r hr => h7 r (List.mem_of_mem_take hr)
  have hB' : ∀ r ∈ b0 :: rows.drop (p + 1), r.length = 4 := fun r hr => h7 r (by rw [hsp]; exact List.mem_append_right _ hr)
  refine LB.mkN hr2 (by rw [length_splice _ _ _ (by omega), h2]) h3 h4 h5 (rows := rows.take p ++ r' :: rows.drop (p + 1)) ?_ (fun r hr => ?_) ?_ ?_
  · rw [List.length_append, List.length_cons, List.length_take, List.length_drop]; omega
  · rcases List.mem_append.1 hr with hr | hr
    · exact hA r hr
    · rcases List.mem_cons.1 hr with rfl | hr
      · exact hl
      · exact hB' r (by simp [hr])
  · exact flat_put (A := rows.take p) (b0 := b0) (B := rows.drop (p + 1)) hA hB' hl (by rw [List.length_take]; omega) (by rw [← hsp, h6]) hc (by rw [← hsp]; exact h8)
  · rw [← set_split (l := rows) (by omega) r']
    exact All2.set (h9.mono fun q z hq => mov_oses _ _ _ _ _ _ hq hg2.size hmv) (mov_oses _ _ _ _ _ _ hr' hg2.size hmv)
theorem spl4 {cur : List Value} {p : Nat} {a b c d : Value} (h : p + 4 ≤ cur.length) : (((cur.set p a).set (p + 1) b).set (p + 2) c).set (p + 3) d = splice cur p [a, b, c, d] := by
  apply List.ext_getElem?
  intro i
  unfold splice
  rw [List.getElem?_set, List.getElem?_set, List.getElem?_set, List.getElem?_set]
  simp only [List.length_set]
  rcases Nat.lt_or_ge i p with h1 | h1
  · rw [if_neg (by omega), if_neg (by omega), if_neg (by omega), if_neg (by omega), List.getElem?_append_left (by rw [List.length_take]; omega), List.getElem?_take, if_pos h1]
  · obtain ⟨j, rfl⟩ : ∃ j, i = p + j := ⟨i - p, by omega⟩
    have hl : (cur.take p).length = p := by rw [List.length_take]; omega
    rw [List.getElem?_append_right (by omega), hl, Nat.add_sub_cancel_left]
    match j with
    | 0 => simp; omega
    | 1 => simp; omega
    | 2 => simp; omega
    | 3 => simp; omega
    | j + 4 =>
      rw [if_neg (by omega), if_neg (by omega), if_neg (by omega), if_neg (by omega), List.getElem?_append_right (by simp), List.getElem?_drop]
      congr 1
      simp
      omega
end Go.Proofs.YteafgdidjdfiiaaGreat
end
