/- The walks over the document's copies: reports. -/
import Derived.Test.YtgbfmccecnfooaaDoorCBAT
import Derived.Test.YtgbfmccecnfooaaDoorCBBP
set_option linter.unusedVariables false
namespace Go.Proofs.YtgbfmccecnfooaaDoor
open Go.RowKit Oct
theorem one8 {a b c d : Int} {s t u v : Value} (hs : s.oneCell' = true) (ht : t.oneCell' = true) (hu : u.oneCell' = true) (hv : v.oneCell' = true) : ∀ x ∈ [Value.int .i64 a, .int .i64 b, .int .i64 c, .int .i64 d, s, t, u, v], x.oneCell' = true := by
  intro x hx
  simp only [List.mem_cons, List.not_mem_nil, or_false] at hx
  rcases hx with rfl | rfl | rfl | rfl | rfl | rfl | rfl | rfl <;> first | rfl | assumption
theorem rt_slice {G : Nat → Prop} {w : World} {v : Value} {l : List Int} (h : RT G w v l) : ∃ ao n cap, v = .slice ao n cap := by
  obtain ⟨ao, cap, e, _⟩ := h.form; exact ⟨ao, _, cap, e⟩
theorem rl_slice {α : Type} {R : (Nat → Prop) → World → List Value → α → Prop} {k : Nat} {G : Nat → Prop} {w : World} {v : Value} {ys : List α} (h : RL R k G w v ys) : ∃ ao n cap, v = .slice ao n cap := by
  obtain ⟨ao, cap, e, _⟩ := h.form; exact ⟨ao, _, cap, e⟩
set_option maxRecDepth 10000 in
set_option maxHeartbeats 4000000 in
/-- CopyReport. -/
theorem copyReport_any (w : World) (r : List Value) (x : PRep) (h : RRep Any w r x) (hz : szR x) :
    Calls Tryd.prog 6 #[.agg r.toArray] w fun e w' => ∃ r', e = .returned (.agg r'.toArray) ∧ RRep (From w.heap.size) w' r' x ∧ Below w.heap.size w w' := by
  obtain ⟨vd, vs, vp, vg, rfl, hd, hs, hp, hg⟩ := h
  obtain ⟨z1, z2, z3, z4⟩ := hz
  obtain ⟨ap, cp, rfl, hmp⟩ := hp.form
  obtain ⟨w2, hw2⟩ : ∃ w2, w2 = (w.alloc (.cells #[.int .i64 x.1.1, .int .i64 x.1.2, .int .i64 x.2.1, .int .i64 x.2.2.1, vd, vs, .slice ap x.2.2.2.2.2.1.length cp, vg] 30)).alloc (.cells #[.int .i64 0, .int .i64 0, .int .i64 0, .int .i64 0, .slice none 0 0, .slice none 0 0, .slice none 0 0, .slice none 0 0] 30) := ⟨_, rfl⟩
  have ra : Row w2 w.heap.size 30 [.int .i64 x.1.1, .int .i64 x.1.2, .int .i64 x.2.1, .int .i64 x.2.2.1, vd, vs, .slice ap x.2.2.2.2.2.1.length cp, vg] := by rw [hw2]; exact row_alloc (Row.new w 30 _) _
  have rr : Row w2 (w.heap.size + 1) 30 [.int .i64 0, .int .i64 0, .int .i64 0, .int .i64 0, .slice none 0 0, .slice none 0 0, .slice none 0 0, .slice none 0 0] := by
    rw [hw2]
    have := Row.new (w.alloc (.cells #[.int .i64 x.1.1, .int .i64 x.1.2, .int .i64 x.2.1, .int .i64 x.2.2.1, vd, vs, .slice ap x.2.2.2.2.2.1.length cp, vg] 30)) 30 [.int .i64 0, .int .i64 0, .int .i64 0, .int .i64 0, .slice none 0 0, .slice none 0 0, .slice none 0 0, .slice none 0 0]
    simpa using this
  have hB : Below w.heap.size w w2 := by rw [hw2]; exact ((Below.refl _ w).alloc (Nat.le_refl _) _).alloc (by simp) _
  have hsz : w2.heap.size = w.heap.size + 2 := by rw [hw2]; simp
  go_enter Tryd.func6, Tryd.ntmps6
  go_upto_region 1 with fail
  rw [← hw2]
  clear hw2
  have HS := (show Hid (w2.heap.size = w.heap.size + 2) from hsz)
  clear hsz
  generalize hxl : x.2.2.2.2.2.1.length = np at *
  have c2 := (row_alloc ra (.cells #[] 5)).cell (j := 4) rfl
  have hd2 := (hd.mv (Mv.below hB)).1
  go_wp2_with (first
    | (at_builtin; refine app_copy rfl _ _ rfl rfl _ x.2.2.2.1 rfl hd2 (Nat.le_trans z1 (by decide)) ?_; intro v3 w3 hown3 hfr3 hb3; have ra3 := ra.below hb3)
    | (refine wl_set rfl _ _ _ rfl w.heap.size 4 _ rfl rfl _ _ ra3 (show 4 < 8 by decide) (by kernel_rfl) (own_one' hown3) ?_; intro w4 ra4 hg4; have ra4' : Row w4 w.heap.size 30 [.int .i64 x.1.1, .int .i64 x.1.2, .int .i64 x.2.1, .int .i64 x.2.2.1, v3, vs, .slice ap np cp, vg] := ra4.out; have c3 := (row_alloc ra4' (.cells #[] 5)).cell (j := 7) rfl; have hB3 := below_and hB (Nat.le_refl _) hb3; have hB4 : Below w.heap.size w w4 := hB3.trans (grown_below hg4 hB3.size (fun k hk => by cases hk; exact Nat.le_refl _)); have hg2 := (hg.mv (Mv.below hB4)).1)
    | (at_builtin; refine app_copy rfl _ _ rfl rfl _ x.2.2.2.2.2.2 rfl hg2 (Nat.le_trans z4 (by decide)) ?_; intro v5 w5 hown5 hfr5 hb5; have ra5 := ra4'.below hb5)
    | (refine wl_set rfl _ _ _ rfl w.heap.size 7 _ rfl rfl _ _ ra5 (show 7 < 8 by decide) (by kernel_rfl) (own_one' hown5) ?_; intro w6 ra6 hg6; have ra6' : Row w6 w.heap.size 30 [.int .i64 x.1.1, .int .i64 x.1.2, .int .i64 x.2.1, .int .i64 x.2.2.1, v3, vs, .slice ap np cp, v5] := ra6.out; have rr6 := (((rr.below hb3).grown hg4 (fun e => by injection e with e; omega)).below hb5).grown hg6 (fun e => by injection e with e; omega); have c5 := ra6'.cell (j := 5) rfl))
  have hs2 := HS.out
  have f3 : RT (From w2.heap.size) w3 v3 x.2.2.2.1 := RT.own hown3 hd2.1 hfr3
  have f4 := f3.mv (Mv.from (L := w.heap.size + 2) hg4 (by omega) (by omega))
  have f5 := f4.mv (Mv.belowG hb5)
  have f6 := f5.mv (Mv.from (L := w.heap.size + 2) hg6 (by omega) (Nat.le_refl _))
  have hs4 := Nat.le_trans hb3.size hg4.size
  have g5 : RT (From w4.heap.size) w5 v5 x.2.2.2.2.2.2 := RT.own hown5 hg2.1 hfr5
  have g6 := g5.mv (Mv.from (L := w.heap.size + 2) hg6 (by omega) (by omega))
  have hs6 := Nat.le_trans hb5.size hg6.size
  have hB5 := below_and hB4 (Nat.le_refl _) hb5
  have hB6 := hB5.trans (grown_below hg6 hB5.size (fun k hk => by cases hk; exact Nat.le_refl _))
  have h26 : w.heap.size + 2 ≤ w6.heap.size := by omega
  clear ra rr hB c2 hd2 hown3 hfr3 hb3 ra3 ra4 ra4' hg4 c3 hB3 hB4 hg2 hown5 hfr5 hb5 ra5 ra6 hg6 f3 f4 f5 g5 hs4 hs6 hB5 hs2 HS
  refine (copyVotes_any w6 vs _ (hs.mv mov_vote hB6.size (Mv.below hB6)) z2).mono ?_
  rintro e w7 ⟨v7, rfl, hR7, hb7⟩
  have ra7 := ra6'.below hb7
  have rr7 := rr6.below hb7
  have hB7 := below_and hB6 (Nat.le_refl _) hb7
  have f7 := f6.mv (Mv.belowG hb7)
  have g7 := g6.mv (Mv.belowG hb7)
  have hR7 := hR7.mv mov_vote (Nat.le_refl _) (Mv.weak (L := w.heap.size + 2) h26)
  have hone7 := hR7.one
  clear ra6' rr6 hB6 f6 g6 c5
  go_wp2_with (refine wl_set rfl _ _ _ rfl w.heap.size 5 _ rfl rfl _ _ ra7 (show 5 < 8 by decide) (by kernel_rfl) hone7 ?_; intro w8 ra8 hg8; have ra8' : Row w8 w.heap.size 30 [.int .i64 x.1.1, .int .i64 x.1.2, .int .i64 x.2.1, .int .i64 x.2.2.1, v3, v7, .slice ap np cp, v5] := ra8.out; have c8 := (row_alloc ra8' (.cells #[] 38)).cell (j := 6) rfl)
  have f8 := f7.mv (Mv.from (L := w.heap.size + 2) hg8 (by omega) (Nat.le_refl _))
  have g8 := g7.mv (Mv.from (L := w.heap.size + 2) hg8 (by omega) (Nat.le_refl _))
  have hR8 := hR7.mv mov_vote hg8.size (Mv.from (L := w.heap.size + 2) hg8 (by omega) (Nat.le_refl _))
  have rr8 := rr7.grown hg8 (fun e => by injection e with e; omega)
  have hB8 : Below w.heap.size w w8 := hB7.trans (grown_below hg8 hB7.size (fun k hk => by cases hk; exact Nat.le_refl _))
  have h28 : w.heap.size + 2 ≤ w8.heap.size := Nat.le_trans (Nat.le_trans h26 hb7.size) hg8.size
  have hlm : (np : Int) ≤ 9223372036854775807 := by rw [← hxl]; exact rl_len hp
  obtain ⟨zp1, zp2⟩ := z3
  rw [hxl] at zp1
  clear ra7 rr7 hB7 f7 g7 hR7 hone7 ra8 hg8 hb7 c8 hs hd hg
  generalize hys : x.2.2.2.2.2.1 = ys at *
  have HXL := (show Hid (ys.length = np) from hxl)
  have HYS := (show Hid (x.2.2.2.2.2.1 = ys) from hys)
  have HZ1 := (show Hid (np * 112 ≤ 140737488351232) from zp1)
  have HZ2 := (show Hid (∀ y ∈ ys, szP y) from zp2)
  clear hxl hys zp1 zp2
  go_loopw [3, 24] (fun v i wr => ∃ q : Nat, q ≤ np ∧ i = .int .i64 q ∧ LB RPrep 38 8 w8.heap.size wr v (ys.take q) ∧ Below w8.heap.size w8 wr) (fun _ i _ => np - (intOf i).toNat)
  case atStart => exact ⟨0, by omega, rfl, LB.fresh _ _ _ _ _ (Nat.le_refl _), below_alloc w8 _⟩
  case round =>
    obtain ⟨q, hq, rfl, hLB, hbr⟩ := hrel
    have hBr := below_and hB8 (Nat.le_refl _) hbr
    by_cases hql : q < np
    · obtain ⟨a, ha⟩ : ∃ a, ys[q]? = some a := ⟨_, List.getElem?_eq_getElem (by have := HXL.out; omega)⟩
      obtain ⟨bb, off, cap, hw1, _, _, _, hbb, hx1⟩ := hp.at (by have := HXL.out; omega)
      injection hw1 with e1 e2 e3
      clear e2
      subst e1 e3
      obtain ⟨r1, _, y1, vo, vq, vc, rfl, t1, t2, t3⟩ := hx1 q a ha
      have hza := HZ2.out a (List.mem_of_getElem? ha)
      have hrng := rangeAt_block y1 (hBr.block bb hbb)
      have HA := (show Hid (ys.take (q + 1) = ys.take q ++ [a]) from take_snoc' ys q a ha)
      have HTL := (show Hid ((ys.take q).length = q) from take_len (by have := HXL.out; omega))
      have k1 := one_RPrep (G := Any) (w := w) (x := a) ⟨vo, vq, vc, rfl, t1, t2, t3⟩
      have hrow0 := Row.new wr 38 [.int .i64 0, .int .i64 0, .int .i64 0, .int .i64 0, .int .i64 0, .slice none 0 0, .slice none 0 0, .slice none 0 0]
      clear ha hx1 y1
      go_wp2_with (first
        | (refine wpList_load_mid rfl _ _ rfl bb (off + q * 8) rfl [.int .i64 a.1, .int .i64 a.2.1.1, .int .i64 a.2.1.2, .int .i64 a.2.2.1.1, .int .i64 a.2.2.1.2.1, vo, vq, vc] _ hrng Tryd.underlying38 rfl (by kernel_rfl) ?_)
        | (refine wl_store rfl _ _ _ rfl wr.heap.size [.int .i64 a.1, .int .i64 a.2.1.1, .int .i64 a.2.1.2, .int .i64 a.2.2.1.1, .int .i64 a.2.2.1.2.1, vo, vq, vc] rfl rfl _ _ hrow0 rfl (by kernel_rfl) k1 ?_; intro w9 hr9 hg9))
      have hb9 : Below wr.heap.size wr w9 := (below_alloc wr (.cells ([.int .i64 0, .int .i64 0, .int .i64 0, .int .i64 0, .int .i64 0, .slice none 0 0, .slice none 0 0, .slice none 0 0] : List Value).toArray 38)).trans (grown_below hg9 (by simp) (fun k hk => by cases hk; exact Nat.le_refl _))
      have hr9 := hr9.out
      have hB9 := below_and hBr (Nat.le_refl _) hb9
      have hB9d : Below w.heap.size w w9.drew := hB9.trans ⟨rfl, rfl, rfl, Nat.le_refl _, fun _ _ => rfl⟩
      have hb98 := below_and hbr (Nat.le_refl _) hb9
      have hLB9 := hLB.below mov_prep hb9
      have hlt9 : ∀ g, u3.ownBlock = some g → g < w9.heap.size := hLB9.lt
      have hnv : u3.ownBlock ≠ some wr.heap.size := fun e => absurd (hLB.lt _ e) (Nat.lt_irrefl _)
      have p0 := hr9.cell (j := 0) rfl
      have p1 := hr9.cell (j := 1) rfl
      have p2 := hr9.cell (j := 2) rfl
      have p3 := hr9.cell (j := 3) rfl
      have p4 := hr9.cell (j := 4) rfl
      have p5 := hr9.cell (j := 5) rfl
      have p6 := hr9.cell (j := 6) rfl
      have p7 := hr9.cell (j := 7) rfl
      have hdw : Below w9.heap.size w9 w9.drew := ⟨rfl, rfl, rfl, Nat.le_refl _, fun _ _ => rfl⟩
      have SK := (show Hid (∀ u, Below w9.heap.size w9 u → u.cell? ⟨wr.heap.size, 0, none⟩ = some (Value.int .i64 a.1) ∧ u.cell? ⟨wr.heap.size, 1, none⟩ = some (Value.int .i64 a.2.1.1) ∧ u.cell? ⟨wr.heap.size, 2, none⟩ = some (Value.int .i64 a.2.1.2) ∧ u.cell? ⟨wr.heap.size, 3, none⟩ = some (Value.int .i64 a.2.2.1.1) ∧ u.cell? ⟨wr.heap.size, 4, none⟩ = some (Value.int .i64 a.2.2.1.2.1) ∧ u.cell? ⟨wr.heap.size, 5, none⟩ = some (vo) ∧ u.cell? ⟨wr.heap.size, 6, none⟩ = some (vq) ∧ u.cell? ⟨wr.heap.size, 7, none⟩ = some (vc)) from fun u hu => ⟨keep_cell hu p0, keep_cell hu p1, keep_cell hu p2, keep_cell hu p3, keep_cell hu p4, keep_cell hu p5, keep_cell hu p6, keep_cell hu p7⟩)
      have hws : w8.heap.size ≤ w9.heap.size := hb98.size
      have HQ := (show Hid (Calls Tryd.prog 16 #[.agg ([.int .i64 a.2.2.1.1, .int .i64 a.2.2.1.2.1, vo, vq] : List Value).toArray] w9.drew _) from copyReq_any w9.drew [.int .i64 a.2.2.1.1, .int .i64 a.2.2.1.2.1, vo, vq] a.2.2.1 ⟨_, _, rfl, t1.mv (Mv.below hB9d), t2.mv (Mv.below hB9d)⟩ hza.1)
      clear hrng hrow0 hg9
      go_region_held3 (fun u => u.cell? ⟨wr.heap.size, 0, none⟩ = some (Value.int .i64 a.1) ∧ u.cell? ⟨wr.heap.size, 1, none⟩ = some (Value.int .i64 a.2.1.1) ∧ u.cell? ⟨wr.heap.size, 2, none⟩ = some (Value.int .i64 a.2.1.2) ∧ u.cell? ⟨wr.heap.size, 3, none⟩ = some (Value.int .i64 a.2.2.1.1) ∧ u.cell? ⟨wr.heap.size, 4, none⟩ = some (Value.int .i64 a.2.2.1.2.1) ∧ u.cell? ⟨wr.heap.size, 5, none⟩ = some (vo) ∧ u.cell? ⟨wr.heap.size, 6, none⟩ = some (vq) ∧ u.cell? ⟨wr.heap.size, 7, none⟩ = some (vc))
        (first | exact SK.out _ (by assumption) | exact hS13 | go_keep)
        (first
          | (go_at_call 16; refine HQ.out.mono ?_; rintro e w10 ⟨r10, rfl, hR10, hb10⟩; obtain ⟨q1, q2, rfl, m1, m2⟩ := hR10; obtain ⟨ao1, n1, c1, rfl⟩ := rt_slice m1; obtain ⟨ao2, n2, c2, rfl⟩ := rt_slice m2; have hb10w : Below w9.heap.size w9 w10 := hdw.trans hb10; have hB10 := below_and hB9 (Nat.le_refl _) hb10w)
          | (go_at_call 15; refine (copyVotes_any w10 vc _ (t3.mv mov_vote hB10.size (Mv.below hB10)) hza.2).mono ?_; rintro e w11 ⟨v11, rfl, hR11, hb11⟩; obtain ⟨ao3, n3, c3, rfl⟩ := rl_slice hR11; have hb11w : Below w9.heap.size w9 w11 := below_and hb10w (Nat.le_refl _) hb11; have hLB11 := hLB9.below mov_prep hb11w; have hRc : RPrep (From w9.heap.size) w11 [.int .i64 a.1, .int .i64 a.2.1.1, .int .i64 a.2.1.2, .int .i64 a.2.2.1.1, .int .i64 a.2.2.1.2.1, .slice ao1 n1 c1, .slice ao2 n2 c2, .slice ao3 n3 c3] a := ⟨_, _, _, rfl, m1.mv (Mv.belowF hb11 (Nat.le_refl _)), m2.mv (Mv.belowF hb11 (Nat.le_refl _)), hR11.mv mov_vote (Nat.le_refl _) (Mv.weak hb10w.size)⟩)
          | (refine step_push mov_prep (by rfl) _ _ _ (by rfl) 38 8 112 _ Tryd.underlying28 Tryd.inf_preps rfl (by decide) w8.heap.size u3 (ys.take q) (by rfl) hLB11 [.int .i64 a.1, .int .i64 a.2.1.1, .int .i64 a.2.1.2, .int .i64 a.2.2.1.1, .int .i64 a.2.2.1.2.1, .slice ao1 n1 c1, .slice ao2 n2 c2, .slice ao3 n3 c3] a w9.heap.size hRc rfl (one_RPrep hRc) hws hlt9 (by rfl) (Nat.le_trans hws hb11w.size) (by rw [HTL.out]; have := HZ1.out; omega) (by decide) ?_; intro v13 w13 hLB13 hg13; have hS13 : w13.cell? ⟨wr.heap.size, 0, none⟩ = some (Value.int .i64 a.1) ∧ w13.cell? ⟨wr.heap.size, 1, none⟩ = some (Value.int .i64 a.2.1.1) ∧ w13.cell? ⟨wr.heap.size, 2, none⟩ = some (Value.int .i64 a.2.1.2) ∧ w13.cell? ⟨wr.heap.size, 3, none⟩ = some (Value.int .i64 a.2.2.1.1) ∧ w13.cell? ⟨wr.heap.size, 4, none⟩ = some (Value.int .i64 a.2.2.1.2.1) ∧ w13.cell? ⟨wr.heap.size, 5, none⟩ = some (vo) ∧ w13.cell? ⟨wr.heap.size, 6, none⟩ = some (vq) ∧ w13.cell? ⟨wr.heap.size, 7, none⟩ = some (vc) := ⟨grown_cell hg13 (keep_cell hb11w p0) hnv, grown_cell hg13 (keep_cell hb11w p1) hnv, grown_cell hg13 (keep_cell hb11w p2) hnv, grown_cell hg13 (keep_cell hb11w p3) hnv, grown_cell hg13 (keep_cell hb11w p4) hnv, grown_cell hg13 (keep_cell hb11w p5) hnv, grown_cell hg13 (keep_cell hb11w p6) hnv, grown_cell hg13 (keep_cell hb11w p7) hnv⟩))
      rw [← HA.out] at hLB13
      have hb811 := below_and hb98 (Nat.le_refl _) hb11w
      have hb813 := hb811.trans (grown_below hg13 hb811.size (fun k hk => hLB.fr k hk))
      go_wp2_with fail
      go_roundw
      case rel => exact ⟨q + 1, by omega, by go_num, hLB13, hb813⟩
      case measure => simp [intOf]; omega
    · obtain rfl : q = np := by omega
      rw [← HXL.out, List.take_length] at hLB
      have hrl := hLB.rl mov_prep
      have hone := hLB.form
      have raE := ra8'.below hbr
      have rrE := rr8.below hbr
      have fE := f8.mv (Mv.belowG hbr)
      have gE := g8.mv (Mv.belowG hbr)
      have hRE := hR8.mv mov_vote hbr.size (Mv.belowG hbr)
      have k3 := fE.one
      have k5 := gE.one
      have k7 := hRE.one
      go_wp2_with (first
        | (refine wl_set rfl _ _ _ rfl w.heap.size 6 _ rfl rfl _ _ raE (show 6 < 8 by decide) (by kernel_rfl) hone ?_; intro wx rax hgx; have rax' : Row wx w.heap.size 30 [.int .i64 x.1.1, .int .i64 x.1.2, .int .i64 x.2.1, .int .i64 x.2.2.1, v3, v7, u3, v5] := rax.out; have rrx := rrE.grown hgx (fun e => by injection e with e; omega))
        | (refine wl_load rfl _ _ rfl w.heap.size rfl _ _ rax' _ Tryd.underlying30 rfl (by kernel_rfl) ?_)
        | (refine wl_store rfl _ _ _ rfl (w.heap.size + 1) [.int .i64 x.1.1, .int .i64 x.1.2, .int .i64 x.2.1, .int .i64 x.2.2.1, v3, v7, u3, v5] rfl rfl _ _ rrx rfl (by kernel_rfl) (one8 k3 k7 hone k5) ?_; intro wy hry hgy))
      have hry := hry.out
      have f9 := (fE.mv (Mv.from (L := w.heap.size + 2) hgx (by omega) (Nat.le_refl _))).mv (Mv.from (L := w.heap.size) hgy (by omega) (by omega))
      have g9 := (gE.mv (Mv.from (L := w.heap.size + 2) hgx (by omega) (Nat.le_refl _))).mv (Mv.from (L := w.heap.size) hgy (by omega) (by omega))
      have s9 := (hRE.mv mov_vote hgx.size (Mv.from (L := w.heap.size + 2) hgx (by omega) (Nat.le_refl _))).mv mov_vote hgy.size (Mv.from (L := w.heap.size) hgy (by omega) (by omega))
      have p9 := (hrl.mv mov_prep hgx.size (Mv.from (L := w.heap.size + 2) hgx (by omega) h28)).mv mov_prep hgy.size (Mv.from (L := w.heap.size) hgy (by omega) (by omega))
      have hBx := hBr.trans (grown_below hgx hBr.size (fun k hk => by cases hk; exact Nat.le_refl _))
      have hBy := hBx.trans (grown_below hgy hBx.size (fun k hk => by cases hk; omega))
      refine bodyPost_ret (v := .agg ([.int .i64 x.1.1, .int .i64 x.1.2, .int .i64 x.2.1, .int .i64 x.2.2.1, v3, v7, u3, v5] : List Value).toArray) (results_cell_row rfl _ _ (w.heap.size + 1) _ _ (0, 0) _ (by rfl) hry Tryd.underlying30 rfl (by kernel_rfl)) rfl ?_
      exact ⟨_, rfl, ⟨_, _, _, _, rfl, f9, s9, by rw [HYS.out]; exact p9, g9⟩, hBy⟩
end Go.Proofs.YtgbfmccecnfooaaDoor
