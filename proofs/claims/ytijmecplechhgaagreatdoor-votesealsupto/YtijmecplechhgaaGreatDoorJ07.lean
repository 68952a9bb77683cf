/- The document's Copy of a message, with where its parts lie. Made by mk13c.py. -/
import Derived.Test.YtijmecplechhgaaGreatDoorJ05
import Derived.Test.YtijmecplechhgaaGreatDoorJ06
section
set_option linter.unusedVariables false
namespace Go.Proofs.YtijmecplechhgaaGreatDoor
open Go.RowKit Oct

theorem one8 {a b c d : Int} {s t u v : Value} (hs : s.oneCell' = true) (ht : t.oneCell' = true) (hu : u.oneCell' = true) (hv : v.oneCell' = true) : ∀ x ∈ [Value.int .i64 a, .int .i64 b, .int .i64 c, .int .i64 d, s, t, u, v], x.oneCell' = true := by
  intro x hx
  simp only [List.mem_cons, List.not_mem_nil, or_false] at hx
  rcases hx with rfl | rfl | rfl | rfl | rfl | rfl | rfl | rfl <;> first | rfl | assumption
theorem rt_slice {G : Nat → Prop} {w : World} {v : Value} {l : List Int} (h : RT G w v l) : ∃ ao n cap, v = .slice ao n cap := by
  obtain ⟨ao, cap, e, _⟩ := h.form; exact ⟨ao, _, cap, e⟩
theorem rl_slice {α : Type} {R : (Nat → Prop) → World → List Value → α → Prop} {k : Nat} {G : Nat → Prop} {w : World} {v : Value} {ys : List α} (h : RL R k G w v ys) : ∃ ao n cap, v = .slice ao n cap := by
  obtain ⟨ao, cap, e, _⟩ := h.form; exact ⟨ao, _, cap, e⟩

set_option maxRecDepth 10000 in
set_option maxHeartbeats 4000000 in
/-- CopyReport. -/
theorem copyReport_any (w : World) (r : List Value) (x : PRep) (h : RRep Any w r x) (hz : szR x) :
    Calls Tryz.prog 18 #[.agg r.toArray] w fun e w' => ∃ r', e = .returned (.agg r'.toArray) ∧ RRep (From w.heap.size) w' r' x ∧ Below w.heap.size w w' := by
  obtain ⟨vd, vs, vp, vg, rfl, hd, hs, hp, hg⟩ := h
  obtain ⟨z1, z2, z3, z4⟩ := hz
  obtain ⟨ap, cp, rfl, hmp⟩ := hp.form
  obtain ⟨w2, hw2⟩ : ∃ w2, w2 = (w.alloc (.cells #[.int .i64 x.1.1, .int .i64 x.1.2, .int .i64 x.2.1, .int .i64 x.2.2.1, vd, vs, .slice ap x.2.2.2.2.2.1.length cp, vg] 48)).alloc (.cells #[.int .i64 0, .int .i64 0, .int .i64 0, .int .i64 0, .slice none 0 0, .slice none 0 0, .slice none 0 0, .slice none 0 0] 48) := ⟨_, rfl⟩
  have ra : Row w2 w.heap.size 48 [.int .i64 x.1.1, .int .i64 x.1.2, .int .i64 x.2.1, .int .i64 x.2.2.1, vd, vs, .slice ap x.2.2.2.2.2.1.length cp, vg] := by rw [hw2]; exact row_alloc (Row.new w 48 _) _
  have rr : Row w2 (w.heap.size + 1) 48 [.int .i64 0, .int .i64 0, .int .i64 0, .int .i64 0, .slice none 0 0, .slice none 0 0, .slice none 0 0, .slice none 0 0] := by
    rw [hw2]
    have := Row.new (w.alloc (.cells #[.int .i64 x.1.1, .int .i64 x.1.2, .int .i64 x.2.1, .int .i64 x.2.2.1, vd, vs, .slice ap x.2.2.2.2.2.1.length cp, vg] 48)) 48 [.int .i64 0, .int .i64 0, .int .i64 0, .int .i64 0, .slice none 0 0, .slice none 0 0, .slice none 0 0, .slice none 0 0]
    simpa using this
  have hB : Below w.heap.size w w2 := by rw [hw2]; exact ((Below.refl _ w).alloc (Nat.le_refl _) _).alloc (by simp) _
  have hsz : w2.heap.size = w.heap.size + 2 := by rw [hw2]; simp
  go_enter Tryz.func18, Tryz.ntmps18
  go_upto_region 1 with fail
  rw [← hw2]
  clear hw2
  have HS := (show Hid (w2.heap.size = w.heap.size + 2) from hsz)
  clear hsz
  generalize hxl : x.2.2.2.2.2.1.length = np at *
  have c2 := (row_alloc ra (.cells #[] 5)).cell (j := 4) rfl
  have hd2 := (hd.mv (Mv.below hB)).1
  go_wp2_with (first
    | (at_builtin; refine app_copy rfl _ _ rfl rfl _ x.2.2.2.1 rfl hd2 (Nat.le_trans z1 (by decide)) ?_; intro v3 w3 hown3 hfr3 hb3; have ra3 := ra.below hb3)
    | (refine wl_set rfl _ _ _ rfl w.heap.size 4 _ rfl rfl _ _ ra3 (show 4 < 8 by decide) (by kernel_rfl) (own_one' hown3) ?_; intro w4 ra4 hg4; have ra4' : Row w4 w.heap.size 48 [.int .i64 x.1.1, .int .i64 x.1.2, .int .i64 x.2.1, .int .i64 x.2.2.1, v3, vs, .slice ap np cp, vg] := ra4.out; have c3 := (row_alloc ra4' (.cells #[] 5)).cell (j := 7) rfl; have hB3 := below_and hB (Nat.le_refl _) hb3; have hB4 : Below w.heap.size w w4 := hB3.trans (grown_below hg4 hB3.size (fun k hk => by cases hk; exact Nat.le_refl _)); have hg2 := (hg.mv (Mv.below hB4)).1)
    | (at_builtin; refine app_copy rfl _ _ rfl rfl _ x.2.2.2.2.2.2 rfl hg2 (Nat.le_trans z4 (by decide)) ?_; intro v5 w5 hown5 hfr5 hb5; have ra5 := ra4'.below hb5)
    | (refine wl_set rfl _ _ _ rfl w.heap.size 7 _ rfl rfl _ _ ra5 (show 7 < 8 by decide) (by kernel_rfl) (own_one' hown5) ?_; intro w6 ra6 hg6; have ra6' : Row w6 w.heap.size 48 [.int .i64 x.1.1, .int .i64 x.1.2, .int .i64 x.2.1, .int .i64 x.2.2.1, v3, vs, .slice ap np cp, v5] := ra6.out; have rr6 := (((rr.below hb3).grown hg4 (fun e => by injection e with e; omega)).below hb5).grown hg6 (fun e => by injection e with e; omega); have c5 := ra6'.cell (j := 5) rfl))
  have hs2 := HS.out
  have f3 : RT (From w2.heap.size) w3 v3 x.2.2.2.1 := RT.own hown3 hd2.1 hfr3
  have f4 := f3.mv (Mv.from (L := w.heap.size + 2) hg4 (by omega) (by omega))
  have f5 := f4.mv (Mv.belowG hb5)
  have f6 := f5.mv (Mv.from (L := w.heap.size + 2) hg6 (by omega) (Nat.le_refl _))
  have hs4 := Nat.le_trans hb3.size hg4.size
  have g5 : RT (From w4.heap.size) w5 v5 x.2.2.2.2.2.2 := RT.own hown5 hg2.1 hfr5
  have g6 := g5.mv (Mv.from (L := w.heap.size + 2) hg6 (by omega) (by omega))
  have hs6 := Nat.le_trans hb5.size hg6.size
  have hB5 := below_and hB4 (Nat.le_refl _) hb5
  have hB6 := hB5.trans (grown_below hg6 hB5.size (fun k hk => by cases hk; exact Nat.le_refl _))
  have h26 : w.heap.size + 2 ≤ w6.heap.size := by omega
  clear ra rr hB c2 hd2 hown3 hfr3 hb3 ra3 ra4 ra4' hg4 c3 hB3 hB4 hg2 hown5 hfr5 hb5 ra5 ra6 hg6 f3 f4 f5 g5 hs4 hs6 hB5 hs2 HS
  refine (copyVotes_any w6 vs _ (hs.mv mov_vote hB6.size (Mv.below hB6)) z2).mono ?_
  rintro e w7 ⟨v7, rfl, hR7, hb7⟩
  have ra7 := ra6'.below hb7
  have rr7 := rr6.below hb7
  have hB7 := below_and hB6 (Nat.le_refl _) hb7
  have f7 := f6.mv (Mv.belowG hb7)
  have g7 := g6.mv (Mv.belowG hb7)
  have hR7 := hR7.mv mov_vote (Nat.le_refl _) (Mv.weak (L := w.heap.size + 2) h26)
  have hone7 := hR7.one
  clear ra6' rr6 hB6 f6 g6 c5
  go_wp2_with (refine wl_set rfl _ _ _ rfl w.heap.size 5 _ rfl rfl _ _ ra7 (show 5 < 8 by decide) (by kernel_rfl) hone7 ?_; intro w8 ra8 hg8; have ra8' : Row w8 w.heap.size 48 [.int .i64 x.1.1, .int .i64 x.1.2, .int .i64 x.2.1, .int .i64 x.2.2.1, v3, v7, .slice ap np cp, v5] := ra8.out; have c8 := (row_alloc ra8' (.cells #[] 69)).cell (j := 6) rfl)
  have f8 := f7.mv (Mv.from (L := w.heap.size + 2) hg8 (by omega) (Nat.le_refl _))
  have g8 := g7.mv (Mv.from (L := w.heap.size + 2) hg8 (by omega) (Nat.le_refl _))
  have hR8 := hR7.mv mov_vote hg8.size (Mv.from (L := w.heap.size + 2) hg8 (by omega) (Nat.le_refl _))
  have rr8 := rr7.grown hg8 (fun e => by injection e with e; omega)
  have hB8 : Below w.heap.size w w8 := hB7.trans (grown_below hg8 hB7.size (fun k hk => by cases hk; exact Nat.le_refl _))
  have h28 : w.heap.size + 2 ≤ w8.heap.size := Nat.le_trans (Nat.le_trans h26 hb7.size) hg8.size
  have hlm : (np : Int) ≤ 9223372036854775807 := by rw [← hxl]; exact rl_len hp
  obtain ⟨zp1, zp2⟩ := z3
  rw [hxl] at zp1
  clear ra7 rr7 hB7 f7 g7 hR7 hone7 ra8 hg8 hb7 c8 hs hd hg
  generalize hys : x.2.2.2.2.2.1 = ys at *
  have HXL := (show Hid (ys.length = np) from hxl)
  have HYS := (show Hid (x.2.2.2.2.2.1 = ys) from hys)
  have HZ1 := (show Hid (np * 112 ≤ 140737488351232) from zp1)
  have HZ2 := (show Hid (∀ y ∈ ys, szP y) from zp2)
  clear hxl hys zp1 zp2
  go_loopw [3, 24] (fun v i wr => ∃ q : Nat, q ≤ np ∧ i = .int .i64 q ∧ LB RPrep 69 8 w8.heap.size wr v (ys.take q) ∧ Below w8.heap.size w8 wr) (fun _ i _ => np - (intOf i).toNat)
  case atStart => exact ⟨0, by omega, rfl, LB.fresh _ _ _ _ _ (Nat.le_refl _), below_alloc w8 _⟩
  case round =>
    obtain ⟨q, hq, rfl, hLB, hbr⟩ := hrel
    have hBr := below_and hB8 (Nat.le_refl _) hbr
    by_cases hql : q < np
    · obtain ⟨a, ha⟩ : ∃ a, ys[q]? = some a := ⟨_, List.getElem?_eq_getElem (by have := HXL.out; omega)⟩
      obtain ⟨bb, off, cap, hw1, _, _, _, hbb, hx1⟩ := hp.at (by have := HXL.out; omega)
      injection hw1 with e1 e2 e3
      clear e2
      subst e1 e3
      obtain ⟨r1, _, y1, vo, vq, vc, rfl, t1, t2, t3⟩ := hx1 q a ha
      have hza := HZ2.out a (List.mem_of_getElem? ha)
      have hrng := rangeAt_block y1 (hBr.block bb hbb)
      have HA := (show Hid (ys.take (q + 1) = ys.take q ++ [a]) from take_snoc' ys q a ha)
      have HTL := (show Hid ((ys.take q).length = q) from take_len (by have := HXL.out; omega))
      have k1 := one_RPrep (G := Any) (w := w) (x := a) ⟨vo, vq, vc, rfl, t1, t2, t3⟩
      have hrow0 := Row.new wr 69 [.int .i64 0, .int .i64 0, .int .i64 0, .int .i64 0, .int .i64 0, .slice none 0 0, .slice none 0 0, .slice none 0 0]
      clear ha hx1 y1
      go_wp2_with (first
        | (refine wpList_load_mid rfl _ _ rfl bb (off + q * 8) rfl [.int .i64 a.1, .int .i64 a.2.1.1, .int .i64 a.2.1.2, .int .i64 a.2.2.1.1, .int .i64 a.2.2.1.2.1, vo, vq, vc] _ hrng Tryz.underlying69 rfl (by kernel_rfl) ?_)
        | (refine wl_store rfl _ _ _ rfl wr.heap.size [.int .i64 a.1, .int .i64 a.2.1.1, .int .i64 a.2.1.2, .int .i64 a.2.2.1.1, .int .i64 a.2.2.1.2.1, vo, vq, vc] rfl rfl _ _ hrow0 rfl (by kernel_rfl) k1 ?_; intro w9 hr9 hg9))
      have hb9 : Below wr.heap.size wr w9 := (below_alloc wr (.cells ([.int .i64 0, .int .i64 0, .int .i64 0, .int .i64 0, .int .i64 0, .slice none 0 0, .slice none 0 0, .slice none 0 0] : List Value).toArray 69)).trans (grown_below hg9 (by simp) (fun k hk => by cases hk; exact Nat.le_refl _))
      have hr9 := hr9.out
      have hB9 := below_and hBr (Nat.le_refl _) hb9
      have hB9d : Below w.heap.size w w9.drew := hB9.trans ⟨rfl, rfl, rfl, Nat.le_refl _, fun _ _ => rfl⟩
      have hb98 := below_and hbr (Nat.le_refl _) hb9
      have hLB9 := hLB.below mov_prep hb9
      have hlt9 : ∀ g, u3.ownBlock = some g → g < w9.heap.size := hLB9.lt
      have hnv : u3.ownBlock ≠ some wr.heap.size := fun e => absurd (hLB.lt _ e) (Nat.lt_irrefl _)
      have p0 := hr9.cell (j := 0) rfl
      have p1 := hr9.cell (j := 1) rfl
      have p2 := hr9.cell (j := 2) rfl
      have p3 := hr9.cell (j := 3) rfl
      have p4 := hr9.cell (j := 4) rfl
      have p5 := hr9.cell (j := 5) rfl
      have p6 := hr9.cell (j := 6) rfl
      have p7 := hr9.cell (j := 7) rfl
      have hdw : Below w9.heap.size w9 w9.drew := ⟨rfl, rfl, rfl, Nat.le_refl _, fun _ _ => rfl⟩
      have SK := (show Hid (∀ u, Below w9.heap.size w9 u → u.cell? ⟨wr.heap.size, 0, none⟩ = some (Value.int .i64 a.1) ∧ u.cell? ⟨wr.heap.size, 1, none⟩ = some (Value.int .i64 a.2.1.1) ∧ u.cell? ⟨wr.heap.size, 2, none⟩ = some (Value.int .i64 a.2.1.2) ∧ u.cell? ⟨wr.heap.size, 3, none⟩ = some (Value.int .i64 a.2.2.1.1) ∧ u.cell? ⟨wr.heap.size, 4, none⟩ = some (Value.int .i64 a.2.2.1.2.1) ∧ u.cell? ⟨wr.heap.size, 5, none⟩ = some (vo) ∧ u.cell? ⟨wr.heap.size, 6, none⟩ = some (vq) ∧ u.cell? ⟨wr.heap.size, 7, none⟩ = some (vc)) from fun u hu => ⟨keep_cell hu p0, keep_cell hu p1, keep_cell hu p2, keep_cell hu p3, keep_cell hu p4, keep_cell hu p5, keep_cell hu p6, keep_cell hu p7⟩)
      have hws : w8.heap.size ≤ w9.heap.size := hb98.size
      have HQ := (show Hid (Calls Tryz.prog 16 #[.agg ([.int .i64 a.2.2.1.1, .int .i64 a.2.2.1.2.1, vo, vq] : List Value).toArray] w9.drew _) from copyReq_any w9.drew [.int .i64 a.2.2.1.1, .int .i64 a.2.2.1.2.1, vo, vq] a.2.2.1 ⟨_, _, rfl, t1.mv (Mv.below hB9d), t2.mv (Mv.below hB9d)⟩ hza.1)
      clear hrng hrow0 hg9
      go_region_held3 (fun u => u.cell? ⟨wr.heap.size, 0, none⟩ = some (Value.int .i64 a.1) ∧ u.cell? ⟨wr.heap.size, 1, none⟩ = some (Value.int .i64 a.2.1.1) ∧ u.cell? ⟨wr.heap.size, 2, none⟩ = some (Value.int .i64 a.2.1.2) ∧ u.cell? ⟨wr.heap.size, 3, none⟩ = some (Value.int .i64 a.2.2.1.1) ∧ u.cell? ⟨wr.heap.size, 4, none⟩ = some (Value.int .i64 a.2.2.1.2.1) ∧ u.cell? ⟨wr.heap.size, 5, none⟩ = some (vo) ∧ u.cell? ⟨wr.heap.size, 6, none⟩ = some (vq) ∧ u.cell? ⟨wr.heap.size, 7, none⟩ = some (vc))
        (first | exact SK.out _ (by assumption) | exact hS13 | go_keep)
        (first
          | (go_at_call 16; refine HQ.out.mono ?_; rintro e w10 ⟨r10, rfl, hR10, hb10⟩; obtain ⟨q1, q2, rfl, m1, m2⟩ := hR10; obtain ⟨ao1, n1, c1, rfl⟩ := rt_slice m1; obtain ⟨ao2, n2, c2, rfl⟩ := rt_slice m2; have hb10w : Below w9.heap.size w9 w10 := hdw.trans hb10; have hB10 := below_and hB9 (Nat.le_refl _) hb10w)
          | (go_at_call 17; refine (copyVotes_any w10 vc _ (t3.mv mov_vote hB10.size (Mv.below hB10)) hza.2).mono ?_; rintro e w11 ⟨v11, rfl, hR11, hb11⟩; obtain ⟨ao3, n3, c3, rfl⟩ := rl_slice hR11; have hb11w : Below w9.heap.size w9 w11 := below_and hb10w (Nat.le_refl _) hb11; have hLB11 := hLB9.below mov_prep hb11w; have hRc : RPrep (From w9.heap.size) w11 [.int .i64 a.1, .int .i64 a.2.1.1, .int .i64 a.2.1.2, .int .i64 a.2.2.1.1, .int .i64 a.2.2.1.2.1, .slice ao1 n1 c1, .slice ao2 n2 c2, .slice ao3 n3 c3] a := ⟨_, _, _, rfl, m1.mv (Mv.belowF hb11 (Nat.le_refl _)), m2.mv (Mv.belowF hb11 (Nat.le_refl _)), hR11.mv mov_vote (Nat.le_refl _) (Mv.weak hb10w.size)⟩)
          | (refine step_push mov_prep (by rfl) _ _ _ (by rfl) 69 8 112 _ Tryz.underlying46 Tryz.inf_preps rfl (by decide) w8.heap.size u3 (ys.take q) (by rfl) hLB11 [.int .i64 a.1, .int .i64 a.2.1.1, .int .i64 a.2.1.2, .int .i64 a.2.2.1.1, .int .i64 a.2.2.1.2.1, .slice ao1 n1 c1, .slice ao2 n2 c2, .slice ao3 n3 c3] a w9.heap.size hRc rfl (one_RPrep hRc) hws hlt9 (by rfl) (Nat.le_trans hws hb11w.size) (by rw [HTL.out]; have := HZ1.out; omega) (by decide) ?_; intro v13 w13 hLB13 hg13; have hS13 : w13.cell? ⟨wr.heap.size, 0, none⟩ = some (Value.int .i64 a.1) ∧ w13.cell? ⟨wr.heap.size, 1, none⟩ = some (Value.int .i64 a.2.1.1) ∧ w13.cell? ⟨wr.heap.size, 2, none⟩ = some (Value.int .i64 a.2.1.2) ∧ w13.cell? ⟨wr.heap.size, 3, none⟩ = some (Value.int .i64 a.2.2.1.1) ∧ w13.cell? ⟨wr.heap.size, 4, none⟩ = some (Value.int .i64 a.2.2.1.2.1) ∧ w13.cell? ⟨wr.heap.size, 5, none⟩ = some (vo) ∧ w13.cell? ⟨wr.heap.size, 6, none⟩ = some (vq) ∧ w13.cell? ⟨wr.heap.size, 7, none⟩ = some (vc) := ⟨grown_cell hg13 (keep_cell hb11w p0) hnv, grown_cell hg13 (keep_cell hb11w p1) hnv, grown_cell hg13 (keep_cell hb11w p2) hnv, grown_cell hg13 (keep_cell hb11w p3) hnv, grown_cell hg13 (keep_cell hb11w p4) hnv, grown_cell hg13 (keep_cell hb11w p5) hnv, grown_cell hg13 (keep_cell hb11w p6) hnv, grown_cell hg13 (keep_cell hb11w p7) hnv⟩))
      rw [← HA.out] at hLB13
      have hb811 := below_and hb98 (Nat.le_refl _) hb11w
      have hb813 := hb811.trans (grown_below hg13 hb811.size (fun k hk => hLB.fr k hk))
      go_wp2_with fail
      go_roundw
      case rel => exact ⟨q + 1, by omega, by go_num, hLB13, hb813⟩
      case measure => simp [intOf]; omega
    · obtain rfl : q = np := by omega
      rw [← HXL.out, List.take_length] at hLB
      have hrl := hLB.rl mov_prep
      have hone := hLB.form
      have raE := ra8'.below hbr
      have rrE := rr8.below hbr
      have fE := f8.mv (Mv.belowG hbr)
      have gE := g8.mv (Mv.belowG hbr)
      have hRE := hR8.mv mov_vote hbr.size (Mv.belowG hbr)
      have k3 := fE.one
      have k5 := gE.one
      have k7 := hRE.one
      go_wp2_with (first
        | (refine wl_set rfl _ _ _ rfl w.heap.size 6 _ rfl rfl _ _ raE (show 6 < 8 by decide) (by kernel_rfl) hone ?_; intro wx rax hgx; have rax' : Row wx w.heap.size 48 [.int .i64 x.1.1, .int .i64 x.1.2, .int .i64 x.2.1, .int .i64 x.2.2.1, v3, v7, u3, v5] := rax.out; have rrx := rrE.grown hgx (fun e => by injection e with e; omega))
        | (refine wl_load rfl _ _ rfl w.heap.size rfl _ _ rax' _ Tryz.underlying48 rfl (by kernel_rfl) ?_)
        | (refine wl_store rfl _ _ _ rfl (w.heap.size + 1) [.int .i64 x.1.1, .int .i64 x.1.2, .int .i64 x.2.1, .int .i64 x.2.2.1, v3, v7, u3, v5] rfl rfl _ _ rrx rfl (by kernel_rfl) (one8 k3 k7 hone k5) ?_; intro wy hry hgy))
      have hry := hry.out
      have f9 := (fE.mv (Mv.from (L := w.heap.size + 2) hgx (by omega) (Nat.le_refl _))).mv (Mv.from (L := w.heap.size) hgy (by omega) (by omega))
      have g9 := (gE.mv (Mv.from (L := w.heap.size + 2) hgx (by omega) (Nat.le_refl _))).mv (Mv.from (L := w.heap.size) hgy (by omega) (by omega))
      have s9 := (hRE.mv mov_vote hgx.size (Mv.from (L := w.heap.size + 2) hgx (by omega) (Nat.le_refl _))).mv mov_vote hgy.size (Mv.from (L := w.heap.size) hgy (by omega) (by omega))
      have p9 := (hrl.mv mov_prep hgx.size (Mv.from (L := w.heap.size + 2) hgx (by omega) h28)).mv mov_prep hgy.size (Mv.from (L := w.heap.size) hgy (by omega) (by omega))
      have hBx := hBr.trans (grown_below hgx hBr.size (fun k hk => by cases hk; exact Nat.le_refl _))
      have hBy := hBx.trans (grown_below hgy hBx.size (fun k hk => by cases hk; omega))
      refine bodyPost_ret (v := .agg ([.int .i64 x.1.1, .int .i64 x.1.2, .int .i64 x.2.1, .int .i64 x.2.2.1, v3, v7, u3, v5] : List Value).toArray) (results_cell_row rfl _ _ (w.heap.size + 1) _ _ (0, 0) _ (by rfl) hry Tryz.underlying48 rfl (by kernel_rfl)) rfl ?_
      exact ⟨_, rfl, ⟨_, _, _, _, rfl, f9, s9, by rw [HYS.out]; exact p9, g9⟩, hBy⟩
end Go.Proofs.YtijmecplechhgaaGreatDoor
end

section
set_option linter.unusedVariables false
namespace Go.Proofs.YtijmecplechhgaaGreatDoor
open Go.RowKit Oct

/-- Numbers as cells. -/
def ic (l : List Int) : List Value := l.map (Value.int .i64)
theorem ic_one (l : List Int) : ∀ u ∈ ic l, u.oneCell' = true := ints_oneCell .i64 l
theorem ints_rdv {G : Nat → Prop} {w : World} {v : Value} {ys : List Int} (h : RL RInt 1 G w v ys) : Rdv w v (ic ys) ∨ (ys = [] ∧ ∃ c, v = .slice none 0 c) := by
  by_cases hl : 0 < ys.length
  · left
    obtain ⟨b, off, cap, rfl, h1, h2, h3, h4, h5⟩ := h.at hl
    refine ⟨some ⟨b, off, none⟩, cap, by simp [ic], by simpa [ic] using h1, h2, fun e => (by cases e), fun a ha j u hu => ?_⟩
    cases ha
    rw [Addr.add_mid]
    simp only [ic, List.getElem?_map, Option.map_eq_some_iff] at hu
    obtain ⟨y, hy, rfl⟩ := hu
    obtain ⟨r, _, hr, he⟩ := h5 j y hy
    have he : r = [.int .i64 y] := he
    subst he
    have := hr 0 _ rfl
    simpa using this
  · obtain rfl : ys = [] := List.eq_nil_of_length_eq_zero (by omega)
    obtain ⟨ao, cap, rfl, hc⟩ := h.form
    cases ao with
    | none => exact .inr ⟨rfl, cap, rfl⟩
    | some ad => exact .inl ⟨some ad, cap, rfl, Nat.zero_le _, hc, fun e => (by cases e), fun b hb j u hu => by simp [ic] at hu⟩
theorem ints_rl {w : World} {v : Value} {ys : List Int} {B : Nat} (h : Own w 3 v (ic ys)) (hf : Fr B v) : RL RInt 1 (From B) w v ys := by
  have hflat : (ys.map fun y => [Value.int .i64 y]).flatten = ic ys := by
    clear h hf
    unfold ic
    induction ys with
    | nil => rfl
    | cons y ys ih => rw [List.map_cons, List.flatten_cons, ih]; rfl
  have hlen : (ic ys).length = (ys.map fun y => [Value.int .i64 y]).length := by simp [ic]
  have hall : ∀ l : List Int, All2 (RInt (fun b => B ≤ b ∧ v.ownBlock ≠ some b) w) (l.map fun y => [Value.int .i64 y]) l := fun l => by
    induction l with
    | nil => exact trivial
    | cons y l ih => exact ⟨rfl, ih⟩
  have hLB : LB RInt 3 1 B w v ys := ⟨ys.map fun y => [.int .i64 y], by intro r hr; obtain ⟨y, _, rfl⟩ := List.mem_map.1 hr; rfl, by rw [hflat, ← hlen]; exact h, hf, hall ys⟩
  exact hLB.rl mov_int
/-- 'append([]int{}, x...)': a copy. -/
theorem app_ints_copy {w : World} {ops : Array Oper} {rest : List Oper} {o : Oper} {a : Act} {Q : Exit → Act → World → Prop} (hgd : o.guard = none) (s x : Operand)
    (ho : o.op = .call { callee := .builtin .append, args := #[s, x], argTypes := #[28, 28] })
    (hs : a.eval s = .slice (some ⟨w.heap.size, 0, none⟩) 0 0) (sv : Value) (ys : List Int) (hx : a.eval x = sv) (hsrc : RL RInt 1 Any w sv ys) (hb : ys.length * 8 ≤ 140737488351232)
    (h : ∀ v' w', Own w' 3 v' (ic ys) → Fr w.heap.size v' → Below w.heap.size w w' → wpList Tryz.prog ops Q rest (a.put o.dst v') w') : wpList Tryz.prog ops Q (o :: rest) a (w.alloc (.cells #[] 3)) := by
  obtain ⟨i0, hi, hz0, hz1, hz2⟩ := info_parts Tryz.infoI
  have hsrc1 := hsrc.mv mov_int (below_alloc w (.cells #[] 3)).size (Mv.below (below_alloc w _))
  have hil : (ic ys).length = ys.length := by simp [ic]
  rcases ints_rdv hsrc1 with hr | ⟨rfl, c, rfl⟩
  case inr =>
    refine wpList_plain hgd fun K hK => ?_
    have hrun : (Builtin.append_ #[28, 28] o.type #[.slice (some ⟨w.heap.size, 0, none⟩) 0 0, .slice none 0 c]).run Tryz.prog (w.alloc (.cells #[] 3)) = .ok (.slice (some ⟨w.heap.size, 0, none⟩) 0 0) (w.alloc (.cells #[] 3)) := by
      simp [Builtin.append_, run_underlying Tryz.underlying28, sizeOf, typeInfo, hi, Builtin.lenOf, Builtin.firstCells, storeCells]
    unfold Oper.wp
    simp [execOp, ho, resolve, invoke, builtin, hs, hx, hrun, Result.andThen]
    exact hK _ _ (h _ _ (World.ownsRow_lit (base := 0) (size := 1) w #[] 0 (Nat.zero_le _) (by decide) rfl) (fr_at _ _ _ _ (Nat.le_refl _)) (below_alloc w _))
  refine wpList_app (wanted_none hgd) s x 28 ho 3 i0 (.int .i64 0) 8 Tryz.underlying28 hi hz0 hz1 hz2 rfl _ [] hs (World.ownsRow_lit (base := 0) (size := 1) w #[] 0 (Nat.zero_le _) (by decide) rfl) sv (ic ys) hx hr (ic_one _) (by rw [hil]; unfold maxLen; simp; omega) (by rw [hil]; simp; omega) ?_
  intro v' w' happ
  rw [List.nil_append] at happ
  have hp := happ.pre (below_alloc w _)
  exact h v' w' hp.own (happ.fr (fr_at _ _ _ _ (Nat.le_refl _)) (by simp)) ((below_alloc w _).trans (happ.below (fr_at _ _ _ _ (Nat.le_refl _)) (by simp)))


set_option maxRecDepth 20000 in
set_option maxHeartbeats 8000000 in
/-- Copy. -/
theorem copyMsg_any (w : World) (m : PMsg) (s : SV) (hs : SOk Any w m s) (hz : szM m) :
    Calls Tryz.prog 5 #[.agg (mc m s).toArray] w fun e w' => ∃ s', e = .returned (.agg (mc m s').toArray) ∧ SOk (From w.heap.size) w' m s' ∧ Below w.heap.size w w' := by
  obtain ⟨w2, hw2⟩ : ∃ w2, w2 = (w.alloc (.cells (mc m s).toArray 32)).alloc (.cells (mc zeroM sv0).toArray 32) := ⟨_, rfl⟩
  have ra : Row w2 w.heap.size 32 (mc m s) := by rw [hw2]; exact row_alloc (Row.new w 32 _) _
  have rr : Row w2 (w.heap.size + 1) 32 (mc zeroM sv0) := by
    rw [hw2]
    have := Row.new (w.alloc (.cells (mc m s).toArray 32)) 32 (mc zeroM sv0)
    simpa using this
  have hB2 : Below w.heap.size w w2 := by rw [hw2]; exact ((Below.refl _ w).alloc (Nat.le_refl _) _).alloc (by simp) _
  have h2 : w.heap.size + 2 ≤ w2.heap.size := by rw [hw2]; simp
  have hzr : ∀ v ∈ mc zeroM sv0, v.oneCell' = true := (SOk.zero Any w 0).one
  go_enter Tryz.func5, Tryz.ntmps5
  go_upto_region 1 with fail
  rw [show (Obj.cells #[Value.int .i64 0, .int .i64 0, .int .i64 0, .int .i64 0, .int .i64 0, .int .i64 0, .int .i64 0, .int .i64 0, .int .i64 0, .int .i64 0, .slice none 0 0, .slice none 0 0, .int .i64 0, .int .i64 0, .slice none 0 0, .slice none 0 0, .slice none 0 0, .slice none 0 0, .slice none 0 0, .slice none 0 0, .slice none 0 0, .slice none 0 0, .slice none 0 0] 32) = .cells (mc zeroM sv0).toArray 32 from rfl, ← hw2]
  clear hw2
  go_wp2_with (refine wl_part rfl _ _ rfl w.heap.size 8 rfl _ _ ra [.int .i64 m.req.1, .int .i64 m.req.2.1, s.o, s.g] rfl _ Tryz.underlying26 rfl (by kernel_rfl) ?_)
  refine (copyReq_any w2 [.int .i64 m.req.1, .int .i64 m.req.2.1, s.o, s.g] m.req ⟨_, _, rfl, hs.o.mv (Mv.below hB2), hs.g.mv (Mv.below hB2)⟩ hz.req).mono ?_
  rintro e w3 ⟨r3, rfl, hR3, hb3⟩
  obtain ⟨vo, vg, rfl, fo, fg⟩ := hR3
  have fo := fo.mv (Mv.weak (L := w.heap.size + 2) h2)
  have fg := fg.mv (Mv.weak (L := w.heap.size + 2) h2)
  have ra3 := ra.below hb3
  have rr3 := rr.below hb3
  have hB3 := below_and hB2 (Nat.le_refl _) hb3
  have h3 := Nat.le_trans h2 hb3.size
  clear ra rr
  go_wp2_with (first
    | (refine wl_put rfl _ _ _ rfl w.heap.size 8 [.int .i64 m.req.1, .int .i64 m.req.2.1, vo, vg] rfl rfl _ _ ra3 (show 12 ≤ 23 by decide) (by kernel_rfl) (one_RReq (G := From (w.heap.size + 2)) (w := w3) (x := m.req) ⟨_, _, rfl, fo, fg⟩) ?_; intro w4 hr4 hg4; have ra4 : Row w4 w.heap.size 32 (mc m { s with o := vo, g := vg }) := hr4.out)
    | (refine wl_part rfl _ _ rfl w.heap.size 12 rfl _ _ ra4 [.int .i64 m.oth.1, .int .i64 m.oth.2.1, s.o', s.g'] rfl _ Tryz.underlying26 rfl (by kernel_rfl) ?_))
  have rr4 := rr3.grown hg4 (fun e => by injection e with e; omega)
  have hB4 : Below w.heap.size w w4 := hB3.trans (grown_below hg4 hB3.size (fun k hk => by cases hk; exact Nat.le_refl _))
  have h4 := Nat.le_trans h3 hg4.size
  have fo := fo.mv (Mv.from (L := w.heap.size + 2) hg4 (by omega) (Nat.le_refl _))
  have fg := fg.mv (Mv.from (L := w.heap.size + 2) hg4 (by omega) (Nat.le_refl _))
  refine (copyReq_any w4 [.int .i64 m.oth.1, .int .i64 m.oth.2.1, s.o', s.g'] m.oth ⟨_, _, rfl, hs.o'.mv (Mv.below hB4), hs.g'.mv (Mv.below hB4)⟩ hz.oth).mono ?_
  rintro e w5 ⟨r5, rfl, hR5, hb5⟩
  obtain ⟨vo5, vg5, rfl, fo5, fg5⟩ := hR5
  have fo := fo.mv (Mv.belowG hb5)
  have fg := fg.mv (Mv.belowG hb5)
  have fo5 := fo5.mv (Mv.weak (L := w.heap.size + 2) h4)
  have fg5 := fg5.mv (Mv.weak (L := w.heap.size + 2) h4)
  have ra5 := ra4.below hb5
  have rr5 := rr4.below hb5
  have hB5 := below_and hB4 (Nat.le_refl _) hb5
  have h5 := Nat.le_trans h4 hb5.size
  clear ra4 rr4 ra3 rr3 hr4 hg4
  go_wp2_with (first
    | (refine wl_put rfl _ _ _ rfl w.heap.size 12 [.int .i64 m.oth.1, .int .i64 m.oth.2.1, vo5, vg5] rfl rfl _ _ ra5 (show 16 ≤ 23 by decide) (by kernel_rfl) (one_RReq (G := From (w.heap.size + 2)) (w := w5) (x := m.oth) ⟨_, _, rfl, fo5, fg5⟩) ?_; intro w6 hr6 hg6; have ra6 : Row w6 w.heap.size 32 (mc m { s with o := vo, g := vg, o' := vo5, g' := vg5 }) := hr6.out; have c6 := (row_alloc ra6 (.cells #[] 5)).cell (j := 16) rfl; have hB6 : Below w.heap.size w w6 := hB5.trans (grown_below hg6 hB5.size (fun k hk => by cases hk; exact Nat.le_refl _)); have hd6 := (hs.d.mv (Mv.below hB6)).1)
    | (at_builtin; refine app_copy rfl _ _ rfl rfl _ m.data rfl hd6 (Nat.le_trans hz.data (by decide)) ?_; intro v7 w7 hown7 hfr7 hb7; have ra7 := ra6.below hb7)
    | (refine wl_set rfl _ _ _ rfl w.heap.size 16 _ rfl rfl _ _ ra7 (show 16 < 23 by decide) (by kernel_rfl) (own_one' hown7) ?_; intro w8 hr8 hg8; have ra8 : Row w8 w.heap.size 32 (mc m { s with o := vo, g := vg, o' := vo5, g' := vg5, d := v7 }) := hr8.out; have c8 := (row_alloc ra8 (.cells #[] 5)).cell (j := 17) rfl; have hB7 := below_and hB6 (Nat.le_refl _) hb7; have hB8 : Below w.heap.size w w8 := hB7.trans (grown_below hg8 hB7.size (fun k hk => by cases hk; exact Nat.le_refl _)); have hd8 := (hs.s.mv (Mv.below hB8)).1)
    | (at_builtin; refine app_copy rfl _ _ rfl rfl _ m.sig rfl hd8 (Nat.le_trans hz.sig (by decide)) ?_; intro v9 w9 hown9 hfr9 hb9; have ra9 := ra8.below hb9)
    | (refine wl_set rfl _ _ _ rfl w.heap.size 17 _ rfl rfl _ _ ra9 (show 17 < 23 by decide) (by kernel_rfl) (own_one' hown9) ?_; intro w10 hr10 hg10; have ra10 : Row w10 w.heap.size 32 (mc m { s with o := vo, g := vg, o' := vo5, g' := vg5, d := v7, s := v9 }) := hr10.out; have c10 := ra10.cell (j := 18) rfl))
  have h6 := Nat.le_trans h5 hg6.size
  have h7 := Nat.le_trans h6 hb7.size
  have h8 := Nat.le_trans h7 hg8.size
  have h9 := Nat.le_trans h8 hb9.size
  have h10 := Nat.le_trans h9 hg10.size
  have fo := fo.mv (Mv.from (L := w.heap.size + 2) hg6 (by omega) (Nat.le_refl _))
  have fg := fg.mv (Mv.from (L := w.heap.size + 2) hg6 (by omega) (Nat.le_refl _))
  have fo5 := fo5.mv (Mv.from (L := w.heap.size + 2) hg6 (by omega) (Nat.le_refl _))
  have fg5 := fg5.mv (Mv.from (L := w.heap.size + 2) hg6 (by omega) (Nat.le_refl _))
  have fo := fo.mv (Mv.belowG hb7)
  have fg := fg.mv (Mv.belowG hb7)
  have fo5 := fo5.mv (Mv.belowG hb7)
  have fg5 := fg5.mv (Mv.belowG hb7)
  have fd : RT (From w6.heap.size) w7 v7 m.data := RT.own hown7 hd6.1 hfr7
  have fd := fd.mv (Mv.weak (L := w.heap.size + 2) h6)
  have fo := fo.mv (Mv.from (L := w.heap.size + 2) hg8 (by omega) (Nat.le_refl _))
  have fg := fg.mv (Mv.from (L := w.heap.size + 2) hg8 (by omega) (Nat.le_refl _))
  have fo5 := fo5.mv (Mv.from (L := w.heap.size + 2) hg8 (by omega) (Nat.le_refl _))
  have fg5 := fg5.mv (Mv.from (L := w.heap.size + 2) hg8 (by omega) (Nat.le_refl _))
  have fd := fd.mv (Mv.from (L := w.heap.size + 2) hg8 (by omega) (Nat.le_refl _))
  have fo := fo.mv (Mv.belowG hb9)
  have fg := fg.mv (Mv.belowG hb9)
  have fo5 := fo5.mv (Mv.belowG hb9)
  have fg5 := fg5.mv (Mv.belowG hb9)
  have fd := fd.mv (Mv.belowG hb9)
  have fs : RT (From w8.heap.size) w9 v9 m.sig := RT.own hown9 hd8.1 hfr9
  have fs := fs.mv (Mv.weak (L := w.heap.size + 2) h8)
  have fo := fo.mv (Mv.from (L := w.heap.size + 2) hg10 (by omega) (Nat.le_refl _))
  have fg := fg.mv (Mv.from (L := w.heap.size + 2) hg10 (by omega) (Nat.le_refl _))
  have fo5 := fo5.mv (Mv.from (L := w.heap.size + 2) hg10 (by omega) (Nat.le_refl _))
  have fg5 := fg5.mv (Mv.from (L := w.heap.size + 2) hg10 (by omega) (Nat.le_refl _))
  have fd := fd.mv (Mv.from (L := w.heap.size + 2) hg10 (by omega) (Nat.le_refl _))
  have fs := fs.mv (Mv.from (L := w.heap.size + 2) hg10 (by omega) (Nat.le_refl _))
  have rr10 := ((((rr5.grown hg6 (fun e => by injection e with e; omega)).below hb7).grown hg8 (fun e => by injection e with e; omega)).below hb9).grown hg10 (fun e => by injection e with e; omega)
  have hB9 := below_and hB8 (Nat.le_refl _) hb9
  have hB10 : Below w.heap.size w w10 := hB9.trans (grown_below hg10 hB9.size (fun k hk => by cases hk; exact Nat.le_refl _))
  clear rr5 ra5 ra6 ra7 ra8 ra9 hr6 hr8 hr10 hg6 hg8 hg10 hown7 hown9 hfr7 hfr9 hb7 hb9 c6 c8 hd6 hd8 hB5 hB6 hB7 hB8 hB9
  refine (copyVotes_any w10 s.c _ (hs.c.mv mov_vote hB10.size (Mv.below hB10)) hz.cert).mono ?_
  rintro e w11 ⟨v11, rfl, fc, hb11⟩
  have fc := fc.mv mov_vote (Nat.le_refl _) (Mv.weak (L := w.heap.size + 2) h10)
  have fo := fo.mv (Mv.belowG hb11)
  have fg := fg.mv (Mv.belowG hb11)
  have fo5 := fo5.mv (Mv.belowG hb11)
  have fg5 := fg5.mv (Mv.belowG hb11)
  have fd := fd.mv (Mv.belowG hb11)
  have fs := fs.mv (Mv.belowG hb11)
  have ra11 := ra10.below hb11
  have rr11 := rr10.below hb11
  have hB11 := below_and hB10 (Nat.le_refl _) hb11
  have h11 := Nat.le_trans h10 hb11.size
  have oc := fc.one
  clear ra10 rr10 c10
  go_wp2_with (refine wl_set rfl _ _ _ rfl w.heap.size 18 _ rfl rfl _ _ ra11 (show 18 < 23 by decide) (by kernel_rfl) oc ?_; intro w12 hr12 hg12; have ra12 : Row w12 w.heap.size 32 (mc m { s with o := vo, g := vg, o' := vo5, g' := vg5, d := v7, s := v9, c := v11 }) := hr12.out; have c12 := ra12.cell (j := 19) rfl)
  have rr12 := rr11.grown hg12 (fun e => by injection e with e; omega)
  have hB12 : Below w.heap.size w w12 := hB11.trans (grown_below hg12 hB11.size (fun k hk => by cases hk; exact Nat.le_refl _))
  have h12 := Nat.le_trans h11 hg12.size
  have fo := fo.mv (Mv.from (L := w.heap.size + 2) hg12 (by omega) (Nat.le_refl _))
  have fg := fg.mv (Mv.from (L := w.heap.size + 2) hg12 (by omega) (Nat.le_refl _))
  have fo5 := fo5.mv (Mv.from (L := w.heap.size + 2) hg12 (by omega) (Nat.le_refl _))
  have fg5 := fg5.mv (Mv.from (L := w.heap.size + 2) hg12 (by omega) (Nat.le_refl _))
  have fd := fd.mv (Mv.from (L := w.heap.size + 2) hg12 (by omega) (Nat.le_refl _))
  have fs := fs.mv (Mv.from (L := w.heap.size + 2) hg12 (by omega) (Nat.le_refl _))
  have fc := fc.mv mov_vote hg12.size (Mv.from (L := w.heap.size + 2) hg12 (by omega) (Nat.le_refl _))
  refine (copyVotes_any w12 s.v _ (hs.v.mv mov_vote hB12.size (Mv.below hB12)) hz.votes).mono ?_
  rintro e w13 ⟨v13, rfl, fv, hb13⟩
  have fv := fv.mv mov_vote (Nat.le_refl _) (Mv.weak (L := w.heap.size + 2) h12)
  have fo := fo.mv (Mv.belowG hb13)
  have fg := fg.mv (Mv.belowG hb13)
  have fo5 := fo5.mv (Mv.belowG hb13)
  have fg5 := fg5.mv (Mv.belowG hb13)
  have fd := fd.mv (Mv.belowG hb13)
  have fs := fs.mv (Mv.belowG hb13)
  have fc := fc.mv mov_vote hb13.size (Mv.belowG hb13)
  have ra13 := ra12.below hb13
  have rr13 := rr12.below hb13
  have hB13 := below_and hB12 (Nat.le_refl _) hb13
  have h13 := Nat.le_trans h12 hb13.size
  have ov := fv.one
  obtain ⟨xp, cp, hvp, _⟩ := hs.p.form
  clear ra11 rr11 ra12 rr12 hr12 hg12 c12 hB11 hB12
  go_wp2_with (first
    | (refine wl_set rfl _ _ _ rfl w.heap.size 19 _ rfl rfl _ _ ra13 (show 19 < 23 by decide) (by kernel_rfl) ov ?_; intro w14 hr14 hg14; have ra14 : Row w14 w.heap.size 32 (mc m { s with o := vo, g := vg, o' := vo5, g' := vg5, d := v7, s := v9, c := v11, v := v13 }) := hr14.out; have c14 := (row_alloc ra14 (.cells #[] 3)).cell (j := 20) rfl; have hB14 : Below w.heap.size w w14 := hB13.trans (grown_below hg14 hB13.size (fun k hk => by cases hk; exact Nat.le_refl _)); have hn14 := hs.n.mv mov_int hB14.size (Mv.below hB14))
    | (at_builtin; refine app_ints_copy rfl _ _ rfl rfl _ m.order rfl hn14 hz.order.1 ?_; intro v15 w15 hown15 hfr15 hb15; have ra15 := ra14.below hb15)
    | (refine wl_set rfl _ _ _ rfl w.heap.size 20 _ rfl rfl _ _ ra15 (show 20 < 23 by decide) (by kernel_rfl) (own_one' hown15) ?_; intro w16 hr16 hg16; have ra16 : Row w16 w.heap.size 32 (mc m { s with o := vo, g := vg, o' := vo5, g' := vg5, d := v7, s := v9, c := v11, v := v13, n := v15 }) := hr16.out; have c16 : (w16.alloc (.cells #[] 26)).cell? ⟨w.heap.size, 21, none⟩ = some (.slice xp m.picks.length cp) := by rw [← hvp]; exact (row_alloc ra16 (.cells #[] 26)).cell (j := 21) rfl))
  have h14 := Nat.le_trans h13 hg14.size
  have h15 := Nat.le_trans h14 hb15.size
  have h16 := Nat.le_trans h15 hg16.size
  have fo := fo.mv (Mv.from (L := w.heap.size + 2) hg14 (by omega) (Nat.le_refl _))
  have fg := fg.mv (Mv.from (L := w.heap.size + 2) hg14 (by omega) (Nat.le_refl _))
  have fo5 := fo5.mv (Mv.from (L := w.heap.size + 2) hg14 (by omega) (Nat.le_refl _))
  have fg5 := fg5.mv (Mv.from (L := w.heap.size + 2) hg14 (by omega) (Nat.le_refl _))
  have fd := fd.mv (Mv.from (L := w.heap.size + 2) hg14 (by omega) (Nat.le_refl _))
  have fs := fs.mv (Mv.from (L := w.heap.size + 2) hg14 (by omega) (Nat.le_refl _))
  have fc := fc.mv mov_vote hg14.size (Mv.from (L := w.heap.size + 2) hg14 (by omega) (Nat.le_refl _))
  have fv := fv.mv mov_vote hg14.size (Mv.from (L := w.heap.size + 2) hg14 (by omega) (Nat.le_refl _))
  have fo := fo.mv (Mv.belowG hb15)
  have fg := fg.mv (Mv.belowG hb15)
  have fo5 := fo5.mv (Mv.belowG hb15)
  have fg5 := fg5.mv (Mv.belowG hb15)
  have fd := fd.mv (Mv.belowG hb15)
  have fs := fs.mv (Mv.belowG hb15)
  have fc := fc.mv mov_vote hb15.size (Mv.belowG hb15)
  have fv := fv.mv mov_vote hb15.size (Mv.belowG hb15)
  have fn : RL RInt 1 (From w14.heap.size) w15 v15 m.order := ints_rl hown15 hfr15
  have fn := fn.mv mov_int (Nat.le_refl _) (Mv.weak (L := w.heap.size + 2) h14)
  have fo := fo.mv (Mv.from (L := w.heap.size + 2) hg16 (by omega) (Nat.le_refl _))
  have fg := fg.mv (Mv.from (L := w.heap.size + 2) hg16 (by omega) (Nat.le_refl _))
  have fo5 := fo5.mv (Mv.from (L := w.heap.size + 2) hg16 (by omega) (Nat.le_refl _))
  have fg5 := fg5.mv (Mv.from (L := w.heap.size + 2) hg16 (by omega) (Nat.le_refl _))
  have fd := fd.mv (Mv.from (L := w.heap.size + 2) hg16 (by omega) (Nat.le_refl _))
  have fs := fs.mv (Mv.from (L := w.heap.size + 2) hg16 (by omega) (Nat.le_refl _))
  have fc := fc.mv mov_vote hg16.size (Mv.from (L := w.heap.size + 2) hg16 (by omega) (Nat.le_refl _))
  have fv := fv.mv mov_vote hg16.size (Mv.from (L := w.heap.size + 2) hg16 (by omega) (Nat.le_refl _))
  have fn := fn.mv mov_int hg16.size (Mv.from (L := w.heap.size + 2) hg16 (by omega) (Nat.le_refl _))
  have rr16 := ((rr13.grown hg14 (fun e => by injection e with e; omega)).below hb15).grown hg16 (fun e => by injection e with e; omega)
  have hB15 := below_and hB14 (Nat.le_refl _) hb15
  have hB16 : Below w.heap.size w w16 := hB15.trans (grown_below hg16 hB15.size (fun k hk => by cases hk; exact Nat.le_refl _))
  have hlmp : (m.picks.length : Int) ≤ 9223372036854775807 := rl_len hs.p
  have hlml : (m.reps.length : Int) ≤ 9223372036854775807 := rl_len hs.l
  have HVP := (show Hid _ from hvp)
  clear rr13 ra13 ra14 ra15 hr14 hr16 hg14 hg16 hown15 hfr15 hb15 c14 c16 hn14 hB13 hB14 hB15 hvp oc ov h3 h4 h5 h6 h7 h8 h9 h10 h11 h12 h13 h14 h15 hB2 hB3 hB4 hB10
  go_loopw [3, 44] (fun v i wr => ∃ q : Nat, q ≤ m.picks.length ∧ i = .int .i64 q ∧ LB RReq 26 4 w16.heap.size wr v (m.picks.take q) ∧ Below w16.heap.size w16 wr) (fun _ i _ => m.picks.length - (intOf i).toNat)
  case atStart => exact ⟨0, by omega, rfl, LB.fresh _ _ _ _ _ (Nat.le_refl _), below_alloc w16 _⟩
  case round =>
    obtain ⟨q, hq, rfl, hLB, hbr⟩ := hrel
    have hBr := below_and hB16 (Nat.le_refl _) hbr
    by_cases hql : q < m.picks.length
    · obtain ⟨a, ha⟩ : ∃ a, m.picks[q]? = some a := ⟨_, List.getElem?_eq_getElem hql⟩
      obtain ⟨bb, off, cap, hw1, _, _, _, hbb, hx1⟩ := hs.p.at (by omega)
      rw [HVP.out] at hw1
      injection hw1 with e1 e2 e3
      clear e2
      subst e1 e3
      obtain ⟨r1, hrl1, y1, hr1⟩ := hx1 q a ha
      have hza := hz.picks.2 a (List.mem_of_getElem? ha)
      have hrng := rangeAt_block y1 (hBr.block bb hbb)
      have HA := (show Hid (m.picks.take (q + 1) = m.picks.take q ++ [a]) from take_snoc' _ q a ha)
      have HTL := (show Hid ((m.picks.take q).length = q) from take_len (by omega))
      have k1 := one_RReq hr1
      have HR := (show Hid (RReq Any w r1 a) from hr1)
      obtain ⟨vo1, vg1, rfl, _, _⟩ := hr1
      have hrow0 := Row.new wr 26 [.int .i64 0, .int .i64 0, .slice none 0 0, .slice none 0 0]
      clear ha hx1 y1 hrl1
      go_wp2_with (first
        | (refine wpList_load_mid rfl _ _ rfl bb (off + q * 4) rfl [.int .i64 a.1, .int .i64 a.2.1, vo1, vg1] _ hrng Tryz.underlying26 rfl (by kernel_rfl) ?_)
        | (refine wl_store rfl _ _ _ rfl wr.heap.size [.int .i64 a.1, .int .i64 a.2.1, vo1, vg1] rfl rfl _ _ hrow0 rfl (by kernel_rfl) k1 ?_; intro w21 hr21 hg21)
        | (refine wl_load rfl _ _ rfl wr.heap.size rfl _ _ hr21.out _ Tryz.underlying26 rfl (by kernel_rfl) ?_))
      have hb21 : Below wr.heap.size wr w21 := (below_alloc wr (.cells ([.int .i64 0, .int .i64 0, .slice none 0 0, .slice none 0 0] : List Value).toArray 26)).trans (grown_below hg21 (by simp) (fun k hk => by cases hk; exact Nat.le_refl _))
      have hB21 := below_and hBr (Nat.le_refl _) hb21
      refine (copyReq_any w21 [.int .i64 a.1, .int .i64 a.2.1, vo1, vg1] a (mov_req _ _ _ _ _ _ HR.out hB21.size (Mv.below hB21)) hza).mono ?_
      rintro e w22 ⟨r22, rfl, hR22, hb22⟩
      have k22 := one_RReq hR22
      have l22 : r22.length = 4 := len_RReq hR22
      have hR22' := hR22
      obtain ⟨q1, q2, rfl, _, _⟩ := hR22'
      have hb1 := below_and (below_and hbr (Nat.le_refl _) hb21) (Nat.le_refl _) hb22
      have hLB22 := (hLB.below mov_req hb21).below mov_req hb22
      have hlt21 := (hLB.below mov_req hb21).lt
      have hws : w16.heap.size ≤ w21.heap.size := Nat.le_trans hbr.size hb21.size
      clear hrng hrow0 hr21 hg21
      go_wp2_with (at_builtin; refine wl_push mov_req rfl _ _ _ rfl 26 4 64 _ Tryz.underlying29 Tryz.inf_reqs rfl (by decide) w16.heap.size u3 (m.picks.take q) rfl hLB22 [.int .i64 a.1, .int .i64 a.2.1, q1, q2] a w21.heap.size hR22 l22 k22 hws hlt21 rfl (Nat.le_trans hws hb22.size) (by rw [HTL.out]; have := hz.picks.1; omega) (by decide) ?_; intro v23 w23 hLB23 hg23)
      rw [← HA.out] at hLB23
      have hb23 := hb1.trans (grown_below hg23 hb1.size (fun k hk => hLB.fr k hk))
      go_roundw
      case rel => exact ⟨q + 1, by omega, by go_num, hLB23, hb23⟩
      case measure => simp [intOf]; omega
    · obtain rfl : q = m.picks.length := by omega
      rw [List.take_length] at hLB
      have fp := hLB.rl mov_req
      have fp := fp.mv mov_req (Nat.le_refl _) (Mv.weak (L := w.heap.size + 2) h16)
      have op := hLB.form
      have ra17 := ra16.below hbr
      have rr17 := rr16.below hbr
      have h17 := Nat.le_trans h16 hbr.size
      have fo := fo.mv (Mv.belowG hbr)
      have fg := fg.mv (Mv.belowG hbr)
      have fo5 := fo5.mv (Mv.belowG hbr)
      have fg5 := fg5.mv (Mv.belowG hbr)
      have fd := fd.mv (Mv.belowG hbr)
      have fs := fs.mv (Mv.belowG hbr)
      have fc := fc.mv mov_vote hbr.size (Mv.belowG hbr)
      have fv := fv.mv mov_vote hbr.size (Mv.belowG hbr)
      have fn := fn.mv mov_int hbr.size (Mv.belowG hbr)
      obtain ⟨xl, cl, hvl, _⟩ := hs.l.form
      clear ra16 rr16 hLB hql hq
      go_wp2_with (refine wl_set rfl _ _ _ rfl w.heap.size 21 _ rfl rfl _ _ ra17 (show 21 < 23 by decide) (by kernel_rfl) op ?_; intro w18 hr18 hg18; have ra18 : Row w18 w.heap.size 32 (mc m { s with o := vo, g := vg, o' := vo5, g' := vg5, d := v7, s := v9, c := v11, v := v13, n := v15, p := u3 }) := hr18.out; have c18 : (w18.alloc (.cells #[] 48)).cell? ⟨w.heap.size, 22, none⟩ = some (.slice xl m.reps.length cl) := by rw [← hvl]; exact (row_alloc ra18 (.cells #[] 48)).cell (j := 22) rfl)
      have rr18 := rr17.grown hg18 (fun e => by injection e with e; omega)
      have hB18 : Below w.heap.size w w18 := hBr.trans (grown_below hg18 hBr.size (fun k hk => by cases hk; exact Nat.le_refl _))
      have h18 := Nat.le_trans h17 hg18.size
      have fo := fo.mv (Mv.from (L := w.heap.size + 2) hg18 (by omega) (Nat.le_refl _))
      have fg := fg.mv (Mv.from (L := w.heap.size + 2) hg18 (by omega) (Nat.le_refl _))
      have fo5 := fo5.mv (Mv.from (L := w.heap.size + 2) hg18 (by omega) (Nat.le_refl _))
      have fg5 := fg5.mv (Mv.from (L := w.heap.size + 2) hg18 (by omega) (Nat.le_refl _))
      have fd := fd.mv (Mv.from (L := w.heap.size + 2) hg18 (by omega) (Nat.le_refl _))
      have fs := fs.mv (Mv.from (L := w.heap.size + 2) hg18 (by omega) (Nat.le_refl _))
      have fc := fc.mv mov_vote hg18.size (Mv.from (L := w.heap.size + 2) hg18 (by omega) (Nat.le_refl _))
      have fv := fv.mv mov_vote hg18.size (Mv.from (L := w.heap.size + 2) hg18 (by omega) (Nat.le_refl _))
      have fn := fn.mv mov_int hg18.size (Mv.from (L := w.heap.size + 2) hg18 (by omega) (Nat.le_refl _))
      have fp := fp.mv mov_req hg18.size (Mv.from (L := w.heap.size + 2) hg18 (by omega) (Nat.le_refl _))
      have HVL := (show Hid _ from hvl)
      clear ra17 rr17 hr18 hg18 c18 hvl hBr hbr h16 h17 hB16 op
      go_loopw [6, 60] (fun v i wr => ∃ q : Nat, q ≤ m.reps.length ∧ i = .int .i64 q ∧ LB RRep 48 8 w18.heap.size wr v (m.reps.take q) ∧ Below w18.heap.size w18 wr) (fun _ i _ => m.reps.length - (intOf i).toNat)
      case atStart => exact ⟨0, by omega, rfl, LB.fresh _ _ _ _ _ (Nat.le_refl _), below_alloc w18 _⟩
      case round =>
        obtain ⟨q, hq, rfl, hLB, hbr⟩ := hrel
        have hBr := below_and hB18 (Nat.le_refl _) hbr
        by_cases hql : q < m.reps.length
        · obtain ⟨a, ha⟩ : ∃ a, m.reps[q]? = some a := ⟨_, List.getElem?_eq_getElem hql⟩
          obtain ⟨bb, off, cap, hw1, _, _, _, hbb, hx1⟩ := hs.l.at (by omega)
          rw [HVL.out] at hw1
          injection hw1 with e1 e2 e3
          clear e2
          subst e1 e3
          obtain ⟨r1, hrl1, y1, hr1⟩ := hx1 q a ha
          have hza := hz.reps.2 a (List.mem_of_getElem? ha)
          have hrng := rangeAt_block y1 (hBr.block bb hbb)
          have HA := (show Hid (m.reps.take (q + 1) = m.reps.take q ++ [a]) from take_snoc' _ q a ha)
          have HTL := (show Hid ((m.reps.take q).length = q) from take_len (by omega))
          have k1 := one_RRep hr1
          have HR := (show Hid (RRep Any w r1 a) from hr1)
          obtain ⟨vd1, vs1, vp1, vg1, rfl, _, _, _, _⟩ := hr1
          have hrow0 := Row.new wr 48 [.int .i64 0, .int .i64 0, .int .i64 0, .int .i64 0, .slice none 0 0, .slice none 0 0, .slice none 0 0, .slice none 0 0]
          clear ha hx1 y1 hrl1
          go_wp2_with (first
            | (refine wpList_load_mid rfl _ _ rfl bb (off + q * 8) rfl [.int .i64 a.1.1, .int .i64 a.1.2, .int .i64 a.2.1, .int .i64 a.2.2.1, vd1, vs1, vp1, vg1] _ hrng Tryz.underlying48 rfl (by kernel_rfl) ?_)
            | (refine wl_store rfl _ _ _ rfl wr.heap.size [.int .i64 a.1.1, .int .i64 a.1.2, .int .i64 a.2.1, .int .i64 a.2.2.1, vd1, vs1, vp1, vg1] rfl rfl _ _ hrow0 rfl (by kernel_rfl) k1 ?_; intro w21 hr21 hg21)
            | (refine wl_load rfl _ _ rfl wr.heap.size rfl _ _ hr21.out _ Tryz.underlying48 rfl (by kernel_rfl) ?_))
          have hb21 : Below wr.heap.size wr w21 := (below_alloc wr (.cells ([.int .i64 0, .int .i64 0, .int .i64 0, .int .i64 0, .slice none 0 0, .slice none 0 0, .slice none 0 0, .slice none 0 0] : List Value).toArray 48)).trans (grown_below hg21 (by simp) (fun k hk => by cases hk; exact Nat.le_refl _))
          have hB21 := below_and hBr (Nat.le_refl _) hb21
          refine (copyReport_any w21 [.int .i64 a.1.1, .int .i64 a.1.2, .int .i64 a.2.1, .int .i64 a.2.2.1, vd1, vs1, vp1, vg1] a (mov_rep _ _ _ _ _ _ HR.out hB21.size (Mv.below hB21)) hza).mono ?_
          rintro e w22 ⟨r22, rfl, hR22, hb22⟩
          have k22 := one_RRep hR22
          have l22 : r22.length = 8 := len_RRep hR22
          have hR22' := hR22
          obtain ⟨q1, q2, q3, q4, rfl, _, _, _, _⟩ := hR22'
          have hb1 := below_and (below_and hbr (Nat.le_refl _) hb21) (Nat.le_refl _) hb22
          have hLB22 := (hLB.below mov_rep hb21).below mov_rep hb22
          have hlt21 := (hLB.below mov_rep hb21).lt
          have hws : w18.heap.size ≤ w21.heap.size := Nat.le_trans hbr.size hb21.size
          clear hrng hrow0 hr21 hg21
          go_wp2_with (at_builtin; refine wl_push mov_rep rfl _ _ _ rfl 48 8 128 _ Tryz.underlying30 Tryz.inf_reps rfl (by decide) w18.heap.size u6 (m.reps.take q) rfl hLB22 [.int .i64 a.1.1, .int .i64 a.1.2, .int .i64 a.2.1, .int .i64 a.2.2.1, q1, q2, q3, q4] a w21.heap.size hR22 l22 k22 hws hlt21 rfl (Nat.le_trans hws hb22.size) (by rw [HTL.out]; have := hz.reps.1; omega) (by decide) ?_; intro v23 w23 hLB23 hg23)
          rw [← HA.out] at hLB23
          have hb23 := hb1.trans (grown_below hg23 hb1.size (fun k hk => hLB.fr k hk))
          go_roundw
          case rel => exact ⟨q + 1, by omega, by go_num, hLB23, hb23⟩
          case measure => simp [intOf]; omega
        · obtain rfl : q = m.reps.length := by omega
          rw [List.take_length] at hLB
          have fl' := hLB.rl mov_rep
          have fl' := fl'.mv mov_rep (Nat.le_refl _) (Mv.weak (L := w.heap.size + 2) h18)
          have ol := hLB.form
          have ra19 := ra18.below hbr
          have rr19 := rr18.below hbr
          have h19 := Nat.le_trans h18 hbr.size
          have fo := fo.mv (Mv.belowG hbr)
          have fg := fg.mv (Mv.belowG hbr)
          have fo5 := fo5.mv (Mv.belowG hbr)
          have fg5 := fg5.mv (Mv.belowG hbr)
          have fd := fd.mv (Mv.belowG hbr)
          have fs := fs.mv (Mv.belowG hbr)
          have fc := fc.mv mov_vote hbr.size (Mv.belowG hbr)
          have fv := fv.mv mov_vote hbr.size (Mv.belowG hbr)
          have fn := fn.mv mov_int hbr.size (Mv.belowG hbr)
          have fp := fp.mv mov_req hbr.size (Mv.belowG hbr)
          have hso : SOk (From (w.heap.size + 2)) wr m { s with o := vo, g := vg, o' := vo5, g' := vg5, d := v7, s := v9, c := v11, v := v13, n := v15, p := u3, l := u6 } := ⟨fo, fg, fo5, fg5, fd, fs, fc, fv, fn, fp, fl'⟩
          have hone := hso.one
          go_wp2_with (first
            | (refine wl_set rfl _ _ _ rfl w.heap.size 22 _ rfl rfl _ _ ra19 (show 22 < 23 by decide) (by kernel_rfl) ol ?_; intro wx hrx hgx; have rax : Row wx w.heap.size 32 (mc m { s with o := vo, g := vg, o' := vo5, g' := vg5, d := v7, s := v9, c := v11, v := v13, n := v15, p := u3, l := u6 }) := hrx.out; have rrx := rr19.grown hgx (fun e => by injection e with e; omega))
            | (refine wl_load rfl _ _ rfl w.heap.size rfl _ _ rax _ Tryz.underlying32 rfl (by kernel_rfl) ?_)
            | (refine wl_store rfl _ _ _ rfl (w.heap.size + 1) (mc m { s with o := vo, g := vg, o' := vo5, g' := vg5, d := v7, s := v9, c := v11, v := v13, n := v15, p := u3, l := u6 }) rfl rfl _ _ rrx rfl (by kernel_rfl) hone ?_; intro wy hry hgy))
          have hry := hry.out
          have hsx := hso.mv hgx.size (Mv.from (L := w.heap.size + 2) hgx (by omega) (Nat.le_refl _))
          have hsy := hsx.mv hgy.size (Mv.from (L := w.heap.size) hgy (by omega) (by omega))
          have hBx := hBr.trans (grown_below hgx hBr.size (fun k hk => by cases hk; exact Nat.le_refl _))
          have hBy := hBx.trans (grown_below hgy hBx.size (fun k hk => by cases hk; omega))
          refine bodyPost_ret (v := .agg (mc m { s with o := vo, g := vg, o' := vo5, g' := vg5, d := v7, s := v9, c := v11, v := v13, n := v15, p := u3, l := u6 }).toArray) (results_cell_row rfl _ _ (w.heap.size + 1) _ _ (0, 0) _ (by rfl) hry Tryz.underlying32 rfl (by kernel_rfl)) rfl ?_
          exact ⟨_, rfl, hsy, hBy⟩
end Go.Proofs.YtijmecplechhgaaGreatDoor
end

section
set_option linter.unusedVariables false
namespace Go.Proofs.YtijmecplechhgaaGreatDoor
open Go.RowKit Oct

def Btw (B C : Nat) : Nat → Prop := fun k => B ≤ k ∧ k < C
/-- A message of the call's own: all but its reports below C, the reports in a row that may be written, from C on. -/
structure SOkL (B C : Nat) (w : World) (m : PMsg) (q : SV) : Prop where
  o : RT (Btw B C) w q.o m.req.2.2.1
  g : RT (Btw B C) w q.g m.req.2.2.2
  o' : RT (Btw B C) w q.o' m.oth.2.2.1
  g' : RT (Btw B C) w q.g' m.oth.2.2.2
  d : RT (Btw B C) w q.d m.data
  s : RT (Btw B C) w q.s m.sig
  c : RL RVote 2 (Btw B C) w q.c m.cert
  v : RL RVote 2 (Btw B C) w q.v m.votes
  n : RL RInt 1 (Btw B C) w q.n m.order
  p : RL RReq 4 (Btw B C) w q.p m.picks
  l : LB RRep 48 8 C w q.l m.reps
  le : B ≤ C
  lt : C ≤ w.heap.size
theorem SOkL.ok {B C : Nat} {w : World} {m : PMsg} {q : SV} (h : SOkL B C w m q) : SOk (From B) w m q := by
  have M : Mv (Btw B C) (From B) w w := fun k hk _ => ⟨rfl, hk.1⟩
  have hl := h.l.rl mov_rep
  exact ⟨h.o.mv M, h.g.mv M, h.o'.mv M, h.g'.mv M, h.d.mv M, h.s.mv M, h.c.mv mov_vote (Nat.le_refl _) M, h.v.mv mov_vote (Nat.le_refl _) M, h.n.mv mov_int (Nat.le_refl _) M, h.p.mv mov_req (Nat.le_refl _) M, hl.mv mov_rep (Nat.le_refl _) (Mv.weak h.le)⟩
theorem SOkL.any {B C : Nat} {w : World} {m : PMsg} {q : SV} (h : SOkL B C w m q) : SOk Any w m q := h.ok.mv (Nat.le_refl _) Mv.any
theorem SOkL.move {B C : Nat} {w w' : World} {m : PMsg} {q : SV} (h : SOkL B C w m q) (hs : w.heap.size ≤ w'.heap.size) (hm : ∀ k, Btw B C k → k < w.heap.size → w'.heap[k]? = w.heap[k]?) (hl : LB RRep 48 8 C w' q.l m.reps) : SOkL B C w' m q := by
  have M : Mv (Btw B C) (Btw B C) w w' := fun k hk hlt => ⟨hm k hk hlt, hk⟩
  exact ⟨h.o.mv M, h.g.mv M, h.o'.mv M, h.g'.mv M, h.d.mv M, h.s.mv M, h.c.mv mov_vote hs M, h.v.mv mov_vote hs M, h.n.mv mov_int hs M, h.p.mv mov_req hs M, hl, h.le, Nat.le_trans h.lt hs⟩
theorem SOkL.below {B C : Nat} {w w' : World} {m : PMsg} {q : SV} (h : SOkL B C w m q) (hb : Below w.heap.size w w') : SOkL B C w' m q := h.move hb.size (fun k _ hlt => hb.block k hlt) (h.l.below mov_rep hb)
/-- A block below all of it is written. -/
theorem SOkL.grown {B C b : Nat} {w w' : World} {m : PMsg} {q : SV} (h : SOkL B C w m q) (hg : w.grownBy w' (some b)) (hb : b < B) : SOkL B C w' m q := h.move hg.size (fun k hk hlt => hg.block k hlt (fun e => by injection e with e; have := hk.1; omega)) (h.l.grown mov_rep hg (Nat.lt_of_lt_of_le hb h.le))
theorem SOkL.weak {B B' C : Nat} {w : World} {m : PMsg} {q : SV} (h : SOkL B C w m q) (hB : B' ≤ B) : SOkL B' C w m q := by
  have M : Mv (Btw B C) (Btw B' C) w w := fun k hk _ => ⟨rfl, Nat.le_trans hB hk.1, hk.2⟩
  exact ⟨h.o.mv M, h.g.mv M, h.o'.mv M, h.g'.mv M, h.d.mv M, h.s.mv M, h.c.mv mov_vote (Nat.le_refl _) M, h.v.mv mov_vote (Nat.le_refl _) M, h.n.mv mov_int (Nat.le_refl _) M, h.p.mv mov_req (Nat.le_refl _) M, h.l, Nat.le_trans hB h.le, h.lt⟩

set_option maxRecDepth 20000 in
set_option maxHeartbeats 8000000 in
/-- Copy. -/
theorem copyMsgL_any (w : World) (m : PMsg) (s : SV) (hs : SOk Any w m s) (hz : szM m) :
    Calls Tryz.prog 5 #[.agg (mc m s).toArray] w fun e w' => ∃ s' C, e = .returned (.agg (mc m s').toArray) ∧ SOkL w.heap.size C w' m s' ∧ Below w.heap.size w w' := by
  obtain ⟨w2, hw2⟩ : ∃ w2, w2 = (w.alloc (.cells (mc m s).toArray 32)).alloc (.cells (mc zeroM sv0).toArray 32) := ⟨_, rfl⟩
  have ra : Row w2 w.heap.size 32 (mc m s) := by rw [hw2]; exact row_alloc (Row.new w 32 _) _
  have rr : Row w2 (w.heap.size + 1) 32 (mc zeroM sv0) := by
    rw [hw2]
    have := Row.new (w.alloc (.cells (mc m s).toArray 32)) 32 (mc zeroM sv0)
    simpa using this
  have hB2 : Below w.heap.size w w2 := by rw [hw2]; exact ((Below.refl _ w).alloc (Nat.le_refl _) _).alloc (by simp) _
  have h2 : w.heap.size + 2 ≤ w2.heap.size := by rw [hw2]; simp
  have hzr : ∀ v ∈ mc zeroM sv0, v.oneCell' = true := (SOk.zero Any w 0).one
  go_enter Tryz.func5, Tryz.ntmps5
  go_upto_region 1 with fail
  rw [show (Obj.cells #[Value.int .i64 0, .int .i64 0, .int .i64 0, .int .i64 0, .int .i64 0, .int .i64 0, .int .i64 0, .int .i64 0, .int .i64 0, .int .i64 0, .slice none 0 0, .slice none 0 0, .int .i64 0, .int .i64 0, .slice none 0 0, .slice none 0 0, .slice none 0 0, .slice none 0 0, .slice none 0 0, .slice none 0 0, .slice none 0 0, .slice none 0 0, .slice none 0 0] 32) = .cells (mc zeroM sv0).toArray 32 from rfl, ← hw2]
  clear hw2
  go_wp2_with (refine wl_part rfl _ _ rfl w.heap.size 8 rfl _ _ ra [.int .i64 m.req.1, .int .i64 m.req.2.1, s.o, s.g] rfl _ Tryz.underlying26 rfl (by kernel_rfl) ?_)
  refine (copyReq_any w2 [.int .i64 m.req.1, .int .i64 m.req.2.1, s.o, s.g] m.req ⟨_, _, rfl, hs.o.mv (Mv.below hB2), hs.g.mv (Mv.below hB2)⟩ hz.req).mono ?_
  rintro e w3 ⟨r3, rfl, hR3, hb3⟩
  obtain ⟨vo, vg, rfl, fo, fg⟩ := hR3
  have fo := fo.mv (Mv.weak (L := w.heap.size + 2) h2)
  have fg := fg.mv (Mv.weak (L := w.heap.size + 2) h2)
  have ra3 := ra.below hb3
  have rr3 := rr.below hb3
  have hB3 := below_and hB2 (Nat.le_refl _) hb3
  have h3 := Nat.le_trans h2 hb3.size
  clear ra rr
  go_wp2_with (first
    | (refine wl_put rfl _ _ _ rfl w.heap.size 8 [.int .i64 m.req.1, .int .i64 m.req.2.1, vo, vg] rfl rfl _ _ ra3 (show 12 ≤ 23 by decide) (by kernel_rfl) (one_RReq (G := From (w.heap.size + 2)) (w := w3) (x := m.req) ⟨_, _, rfl, fo, fg⟩) ?_; intro w4 hr4 hg4; have ra4 : Row w4 w.heap.size 32 (mc m { s with o := vo, g := vg }) := hr4.out)
    | (refine wl_part rfl _ _ rfl w.heap.size 12 rfl _ _ ra4 [.int .i64 m.oth.1, .int .i64 m.oth.2.1, s.o', s.g'] rfl _ Tryz.underlying26 rfl (by kernel_rfl) ?_))
  have rr4 := rr3.grown hg4 (fun e => by injection e with e; omega)
  have hB4 : Below w.heap.size w w4 := hB3.trans (grown_below hg4 hB3.size (fun k hk => by cases hk; exact Nat.le_refl _))
  have h4 := Nat.le_trans h3 hg4.size
  have fo := fo.mv (Mv.from (L := w.heap.size + 2) hg4 (by omega) (Nat.le_refl _))
  have fg := fg.mv (Mv.from (L := w.heap.size + 2) hg4 (by omega) (Nat.le_refl _))
  refine (copyReq_any w4 [.int .i64 m.oth.1, .int .i64 m.oth.2.1, s.o', s.g'] m.oth ⟨_, _, rfl, hs.o'.mv (Mv.below hB4), hs.g'.mv (Mv.below hB4)⟩ hz.oth).mono ?_
  rintro e w5 ⟨r5, rfl, hR5, hb5⟩
  obtain ⟨vo5, vg5, rfl, fo5, fg5⟩ := hR5
  have fo := fo.mv (Mv.belowG hb5)
  have fg := fg.mv (Mv.belowG hb5)
  have fo5 := fo5.mv (Mv.weak (L := w.heap.size + 2) h4)
  have fg5 := fg5.mv (Mv.weak (L := w.heap.size + 2) h4)
  have ra5 := ra4.below hb5
  have rr5 := rr4.below hb5
  have hB5 := below_and hB4 (Nat.le_refl _) hb5
  have h5 := Nat.le_trans h4 hb5.size
  clear ra4 rr4 ra3 rr3 hr4 hg4
  go_wp2_with (first
    | (refine wl_put rfl _ _ _ rfl w.heap.size 12 [.int .i64 m.oth.1, .int .i64 m.oth.2.1, vo5, vg5] rfl rfl _ _ ra5 (show 16 ≤ 23 by decide) (by kernel_rfl) (one_RReq (G := From (w.heap.size + 2)) (w := w5) (x := m.oth) ⟨_, _, rfl, fo5, fg5⟩) ?_; intro w6 hr6 hg6; have ra6 : Row w6 w.heap.size 32 (mc m { s with o := vo, g := vg, o' := vo5, g' := vg5 }) := hr6.out; have c6 := (row_alloc ra6 (.cells #[] 5)).cell (j := 16) rfl; have hB6 : Below w.heap.size w w6 := hB5.trans (grown_below hg6 hB5.size (fun k hk => by cases hk; exact Nat.le_refl _)); have hd6 := (hs.d.mv (Mv.below hB6)).1)
    | (at_builtin; refine app_copy rfl _ _ rfl rfl _ m.data rfl hd6 (Nat.le_trans hz.data (by decide)) ?_; intro v7 w7 hown7 hfr7 hb7; have ra7 := ra6.below hb7)
    | (refine wl_set rfl _ _ _ rfl w.heap.size 16 _ rfl rfl _ _ ra7 (show 16 < 23 by decide) (by kernel_rfl) (own_one' hown7) ?_; intro w8 hr8 hg8; have ra8 : Row w8 w.heap.size 32 (mc m { s with o := vo, g := vg, o' := vo5, g' := vg5, d := v7 }) := hr8.out; have c8 := (row_alloc ra8 (.cells #[] 5)).cell (j := 17) rfl; have hB7 := below_and hB6 (Nat.le_refl _) hb7; have hB8 : Below w.heap.size w w8 := hB7.trans (grown_below hg8 hB7.size (fun k hk => by cases hk; exact Nat.le_refl _)); have hd8 := (hs.s.mv (Mv.below hB8)).1)
    | (at_builtin; refine app_copy rfl _ _ rfl rfl _ m.sig rfl hd8 (Nat.le_trans hz.sig (by decide)) ?_; intro v9 w9 hown9 hfr9 hb9; have ra9 := ra8.below hb9)
    | (refine wl_set rfl _ _ _ rfl w.heap.size 17 _ rfl rfl _ _ ra9 (show 17 < 23 by decide) (by kernel_rfl) (own_one' hown9) ?_; intro w10 hr10 hg10; have ra10 : Row w10 w.heap.size 32 (mc m { s with o := vo, g := vg, o' := vo5, g' := vg5, d := v7, s := v9 }) := hr10.out; have c10 := ra10.cell (j := 18) rfl))
  have h6 := Nat.le_trans h5 hg6.size
  have h7 := Nat.le_trans h6 hb7.size
  have h8 := Nat.le_trans h7 hg8.size
  have h9 := Nat.le_trans h8 hb9.size
  have h10 := Nat.le_trans h9 hg10.size
  have fo := fo.mv (Mv.from (L := w.heap.size + 2) hg6 (by omega) (Nat.le_refl _))
  have fg := fg.mv (Mv.from (L := w.heap.size + 2) hg6 (by omega) (Nat.le_refl _))
  have fo5 := fo5.mv (Mv.from (L := w.heap.size + 2) hg6 (by omega) (Nat.le_refl _))
  have fg5 := fg5.mv (Mv.from (L := w.heap.size + 2) hg6 (by omega) (Nat.le_refl _))
  have fo := fo.mv (Mv.belowG hb7)
  have fg := fg.mv (Mv.belowG hb7)
  have fo5 := fo5.mv (Mv.belowG hb7)
  have fg5 := fg5.mv (Mv.belowG hb7)
  have fd : RT (From w6.heap.size) w7 v7 m.data := RT.own hown7 hd6.1 hfr7
  have fd := fd.mv (Mv.weak (L := w.heap.size + 2) h6)
  have fo := fo.mv (Mv.from (L := w.heap.size + 2) hg8 (by omega) (Nat.le_refl _))
  have fg := fg.mv (Mv.from (L := w.heap.size + 2) hg8 (by omega) (Nat.le_refl _))
  have fo5 := fo5.mv (Mv.from (L := w.heap.size + 2) hg8 (by omega) (Nat.le_refl _))
  have fg5 := fg5.mv (Mv.from (L := w.heap.size + 2) hg8 (by omega) (Nat.le_refl _))
  have fd := fd.mv (Mv.from (L := w.heap.size + 2) hg8 (by omega) (Nat.le_refl _))
  have fo := fo.mv (Mv.belowG hb9)
  have fg := fg.mv (Mv.belowG hb9)
  have fo5 := fo5.mv (Mv.belowG hb9)
  have fg5 := fg5.mv (Mv.belowG hb9)
  have fd := fd.mv (Mv.belowG hb9)
  have fs : RT (From w8.heap.size) w9 v9 m.sig := RT.own hown9 hd8.1 hfr9
  have fs := fs.mv (Mv.weak (L := w.heap.size + 2) h8)
  have fo := fo.mv (Mv.from (L := w.heap.size + 2) hg10 (by omega) (Nat.le_refl _))
  have fg := fg.mv (Mv.from (L := w.heap.size + 2) hg10 (by omega) (Nat.le_refl _))
  have fo5 := fo5.mv (Mv.from (L := w.heap.size + 2) hg10 (by omega) (Nat.le_refl _))
  have fg5 := fg5.mv (Mv.from (L := w.heap.size + 2) hg10 (by omega) (Nat.le_refl _))
  have fd := fd.mv (Mv.from (L := w.heap.size + 2) hg10 (by omega) (Nat.le_refl _))
  have fs := fs.mv (Mv.from (L := w.heap.size + 2) hg10 (by omega) (Nat.le_refl _))
  have rr10 := ((((rr5.grown hg6 (fun e => by injection e with e; omega)).below hb7).grown hg8 (fun e => by injection e with e; omega)).below hb9).grown hg10 (fun e => by injection e with e; omega)
  have hB9 := below_and hB8 (Nat.le_refl _) hb9
  have hB10 : Below w.heap.size w w10 := hB9.trans (grown_below hg10 hB9.size (fun k hk => by cases hk; exact Nat.le_refl _))
  clear rr5 ra5 ra6 ra7 ra8 ra9 hr6 hr8 hr10 hg6 hg8 hg10 hown7 hown9 hfr7 hfr9 hb7 hb9 c6 c8 hd6 hd8 hB5 hB6 hB7 hB8 hB9
  refine (copyVotes_any w10 s.c _ (hs.c.mv mov_vote hB10.size (Mv.below hB10)) hz.cert).mono ?_
  rintro e w11 ⟨v11, rfl, fc, hb11⟩
  have fc := fc.mv mov_vote (Nat.le_refl _) (Mv.weak (L := w.heap.size + 2) h10)
  have fo := fo.mv (Mv.belowG hb11)
  have fg := fg.mv (Mv.belowG hb11)
  have fo5 := fo5.mv (Mv.belowG hb11)
  have fg5 := fg5.mv (Mv.belowG hb11)
  have fd := fd.mv (Mv.belowG hb11)
  have fs := fs.mv (Mv.belowG hb11)
  have ra11 := ra10.below hb11
  have rr11 := rr10.below hb11
  have hB11 := below_and hB10 (Nat.le_refl _) hb11
  have h11 := Nat.le_trans h10 hb11.size
  have oc := fc.one
  clear ra10 rr10 c10
  go_wp2_with (refine wl_set rfl _ _ _ rfl w.heap.size 18 _ rfl rfl _ _ ra11 (show 18 < 23 by decide) (by kernel_rfl) oc ?_; intro w12 hr12 hg12; have ra12 : Row w12 w.heap.size 32 (mc m { s with o := vo, g := vg, o' := vo5, g' := vg5, d := v7, s := v9, c := v11 }) := hr12.out; have c12 := ra12.cell (j := 19) rfl)
  have rr12 := rr11.grown hg12 (fun e => by injection e with e; omega)
  have hB12 : Below w.heap.size w w12 := hB11.trans (grown_below hg12 hB11.size (fun k hk => by cases hk; exact Nat.le_refl _))
  have h12 := Nat.le_trans h11 hg12.size
  have fo := fo.mv (Mv.from (L := w.heap.size + 2) hg12 (by omega) (Nat.le_refl _))
  have fg := fg.mv (Mv.from (L := w.heap.size + 2) hg12 (by omega) (Nat.le_refl _))
  have fo5 := fo5.mv (Mv.from (L := w.heap.size + 2) hg12 (by omega) (Nat.le_refl _))
  have fg5 := fg5.mv (Mv.from (L := w.heap.size + 2) hg12 (by omega) (Nat.le_refl _))
  have fd := fd.mv (Mv.from (L := w.heap.size + 2) hg12 (by omega) (Nat.le_refl _))
  have fs := fs.mv (Mv.from (L := w.heap.size + 2) hg12 (by omega) (Nat.le_refl _))
  have fc := fc.mv mov_vote hg12.size (Mv.from (L := w.heap.size + 2) hg12 (by omega) (Nat.le_refl _))
  refine (copyVotes_any w12 s.v _ (hs.v.mv mov_vote hB12.size (Mv.below hB12)) hz.votes).mono ?_
  rintro e w13 ⟨v13, rfl, fv, hb13⟩
  have fv := fv.mv mov_vote (Nat.le_refl _) (Mv.weak (L := w.heap.size + 2) h12)
  have fo := fo.mv (Mv.belowG hb13)
  have fg := fg.mv (Mv.belowG hb13)
  have fo5 := fo5.mv (Mv.belowG hb13)
  have fg5 := fg5.mv (Mv.belowG hb13)
  have fd := fd.mv (Mv.belowG hb13)
  have fs := fs.mv (Mv.belowG hb13)
  have fc := fc.mv mov_vote hb13.size (Mv.belowG hb13)
  have ra13 := ra12.below hb13
  have rr13 := rr12.below hb13
  have hB13 := below_and hB12 (Nat.le_refl _) hb13
  have h13 := Nat.le_trans h12 hb13.size
  have ov := fv.one
  obtain ⟨xp, cp, hvp, _⟩ := hs.p.form
  clear ra11 rr11 ra12 rr12 hr12 hg12 c12 hB11 hB12
  go_wp2_with (first
    | (refine wl_set rfl _ _ _ rfl w.heap.size 19 _ rfl rfl _ _ ra13 (show 19 < 23 by decide) (by kernel_rfl) ov ?_; intro w14 hr14 hg14; have ra14 : Row w14 w.heap.size 32 (mc m { s with o := vo, g := vg, o' := vo5, g' := vg5, d := v7, s := v9, c := v11, v := v13 }) := hr14.out; have c14 := (row_alloc ra14 (.cells #[] 3)).cell (j := 20) rfl; have hB14 : Below w.heap.size w w14 := hB13.trans (grown_below hg14 hB13.size (fun k hk => by cases hk; exact Nat.le_refl _)); have hn14 := hs.n.mv mov_int hB14.size (Mv.below hB14))
    | (at_builtin; refine app_ints_copy rfl _ _ rfl rfl _ m.order rfl hn14 hz.order.1 ?_; intro v15 w15 hown15 hfr15 hb15; have ra15 := ra14.below hb15)
    | (refine wl_set rfl _ _ _ rfl w.heap.size 20 _ rfl rfl _ _ ra15 (show 20 < 23 by decide) (by kernel_rfl) (own_one' hown15) ?_; intro w16 hr16 hg16; have ra16 : Row w16 w.heap.size 32 (mc m { s with o := vo, g := vg, o' := vo5, g' := vg5, d := v7, s := v9, c := v11, v := v13, n := v15 }) := hr16.out; have c16 : (w16.alloc (.cells #[] 26)).cell? ⟨w.heap.size, 21, none⟩ = some (.slice xp m.picks.length cp) := by rw [← hvp]; exact (row_alloc ra16 (.cells #[] 26)).cell (j := 21) rfl))
  have h14 := Nat.le_trans h13 hg14.size
  have h15 := Nat.le_trans h14 hb15.size
  have h16 := Nat.le_trans h15 hg16.size
  have fo := fo.mv (Mv.from (L := w.heap.size + 2) hg14 (by omega) (Nat.le_refl _))
  have fg := fg.mv (Mv.from (L := w.heap.size + 2) hg14 (by omega) (Nat.le_refl _))
  have fo5 := fo5.mv (Mv.from (L := w.heap.size + 2) hg14 (by omega) (Nat.le_refl _))
  have fg5 := fg5.mv (Mv.from (L := w.heap.size + 2) hg14 (by omega) (Nat.le_refl _))
  have fd := fd.mv (Mv.from (L := w.heap.size + 2) hg14 (by omega) (Nat.le_refl _))
  have fs := fs.mv (Mv.from (L := w.heap.size + 2) hg14 (by omega) (Nat.le_refl _))
  have fc := fc.mv mov_vote hg14.size (Mv.from (L := w.heap.size + 2) hg14 (by omega) (Nat.le_refl _))
  have fv := fv.mv mov_vote hg14.size (Mv.from (L := w.heap.size + 2) hg14 (by omega) (Nat.le_refl _))
  have fo := fo.mv (Mv.belowG hb15)
  have fg := fg.mv (Mv.belowG hb15)
  have fo5 := fo5.mv (Mv.belowG hb15)
  have fg5 := fg5.mv (Mv.belowG hb15)
  have fd := fd.mv (Mv.belowG hb15)
  have fs := fs.mv (Mv.belowG hb15)
  have fc := fc.mv mov_vote hb15.size (Mv.belowG hb15)
  have fv := fv.mv mov_vote hb15.size (Mv.belowG hb15)
  have fn : RL RInt 1 (From w14.heap.size) w15 v15 m.order := ints_rl hown15 hfr15
  have fn := fn.mv mov_int (Nat.le_refl _) (Mv.weak (L := w.heap.size + 2) h14)
  have fo := fo.mv (Mv.from (L := w.heap.size + 2) hg16 (by omega) (Nat.le_refl _))
  have fg := fg.mv (Mv.from (L := w.heap.size + 2) hg16 (by omega) (Nat.le_refl _))
  have fo5 := fo5.mv (Mv.from (L := w.heap.size + 2) hg16 (by omega) (Nat.le_refl _))
  have fg5 := fg5.mv (Mv.from (L := w.heap.size + 2) hg16 (by omega) (Nat.le_refl _))
  have fd := fd.mv (Mv.from (L := w.heap.size + 2) hg16 (by omega) (Nat.le_refl _))
  have fs := fs.mv (Mv.from (L := w.heap.size + 2) hg16 (by omega) (Nat.le_refl _))
  have fc := fc.mv mov_vote hg16.size (Mv.from (L := w.heap.size + 2) hg16 (by omega) (Nat.le_refl _))
  have fv := fv.mv mov_vote hg16.size (Mv.from (L := w.heap.size + 2) hg16 (by omega) (Nat.le_refl _))
  have fn := fn.mv mov_int hg16.size (Mv.from (L := w.heap.size + 2) hg16 (by omega) (Nat.le_refl _))
  have rr16 := ((rr13.grown hg14 (fun e => by injection e with e; omega)).below hb15).grown hg16 (fun e => by injection e with e; omega)
  have hB15 := below_and hB14 (Nat.le_refl _) hb15
  have hB16 : Below w.heap.size w w16 := hB15.trans (grown_below hg16 hB15.size (fun k hk => by cases hk; exact Nat.le_refl _))
  have hlmp : (m.picks.length : Int) ≤ 9223372036854775807 := rl_len hs.p
  have hlml : (m.reps.length : Int) ≤ 9223372036854775807 := rl_len hs.l
  have HVP := (show Hid _ from hvp)
  clear rr13 ra13 ra14 ra15 hr14 hr16 hg14 hg16 hown15 hfr15 hb15 c14 c16 hn14 hB13 hB14 hB15 hvp oc ov h3 h4 h5 h6 h7 h8 h9 h10 h11 h12 h13 h14 h15 hB2 hB3 hB4 hB10
  go_loopw [3, 44] (fun v i wr => ∃ q : Nat, q ≤ m.picks.length ∧ i = .int .i64 q ∧ LB RReq 26 4 w16.heap.size wr v (m.picks.take q) ∧ Below w16.heap.size w16 wr) (fun _ i _ => m.picks.length - (intOf i).toNat)
  case atStart => exact ⟨0, by omega, rfl, LB.fresh _ _ _ _ _ (Nat.le_refl _), below_alloc w16 _⟩
  case round =>
    obtain ⟨q, hq, rfl, hLB, hbr⟩ := hrel
    have hBr := below_and hB16 (Nat.le_refl _) hbr
    by_cases hql : q < m.picks.length
    · obtain ⟨a, ha⟩ : ∃ a, m.picks[q]? = some a := ⟨_, List.getElem?_eq_getElem hql⟩
      obtain ⟨bb, off, cap, hw1, _, _, _, hbb, hx1⟩ := hs.p.at (by omega)
      rw [HVP.out] at hw1
      injection hw1 with e1 e2 e3
      clear e2
      subst e1 e3
      obtain ⟨r1, hrl1, y1, hr1⟩ := hx1 q a ha
      have hza := hz.picks.2 a (List.mem_of_getElem? ha)
      have hrng := rangeAt_block y1 (hBr.block bb hbb)
      have HA := (show Hid (m.picks.take (q + 1) = m.picks.take q ++ [a]) from take_snoc' _ q a ha)
      have HTL := (show Hid ((m.picks.take q).length = q) from take_len (by omega))
      have k1 := one_RReq hr1
      have HR := (show Hid (RReq Any w r1 a) from hr1)
      obtain ⟨vo1, vg1, rfl, _, _⟩ := hr1
      have hrow0 := Row.new wr 26 [.int .i64 0, .int .i64 0, .slice none 0 0, .slice none 0 0]
      clear ha hx1 y1 hrl1
      go_wp2_with (first
        | (refine wpList_load_mid rfl _ _ rfl bb (off + q * 4) rfl [.int .i64 a.1, .int .i64 a.2.1, vo1, vg1] _ hrng Tryz.underlying26 rfl (by kernel_rfl) ?_)
        | (refine wl_store rfl _ _ _ rfl wr.heap.size [.int .i64 a.1, .int .i64 a.2.1, vo1, vg1] rfl rfl _ _ hrow0 rfl (by kernel_rfl) k1 ?_; intro w21 hr21 hg21)
        | (refine wl_load rfl _ _ rfl wr.heap.size rfl _ _ hr21.out _ Tryz.underlying26 rfl (by kernel_rfl) ?_))
      have hb21 : Below wr.heap.size wr w21 := (below_alloc wr (.cells ([.int .i64 0, .int .i64 0, .slice none 0 0, .slice none 0 0] : List Value).toArray 26)).trans (grown_below hg21 (by simp) (fun k hk => by cases hk; exact Nat.le_refl _))
      have hB21 := below_and hBr (Nat.le_refl _) hb21
      refine (copyReq_any w21 [.int .i64 a.1, .int .i64 a.2.1, vo1, vg1] a (mov_req _ _ _ _ _ _ HR.out hB21.size (Mv.below hB21)) hza).mono ?_
      rintro e w22 ⟨r22, rfl, hR22, hb22⟩
      have k22 := one_RReq hR22
      have l22 : r22.length = 4 := len_RReq hR22
      have hR22' := hR22
      obtain ⟨q1, q2, rfl, _, _⟩ := hR22'
      have hb1 := below_and (below_and hbr (Nat.le_refl _) hb21) (Nat.le_refl _) hb22
      have hLB22 := (hLB.below mov_req hb21).below mov_req hb22
      have hlt21 := (hLB.below mov_req hb21).lt
      have hws : w16.heap.size ≤ w21.heap.size := Nat.le_trans hbr.size hb21.size
      clear hrng hrow0 hr21 hg21
      go_wp2_with (at_builtin; refine wl_push mov_req rfl _ _ _ rfl 26 4 64 _ Tryz.underlying29 Tryz.inf_reqs rfl (by decide) w16.heap.size u3 (m.picks.take q) rfl hLB22 [.int .i64 a.1, .int .i64 a.2.1, q1, q2] a w21.heap.size hR22 l22 k22 hws hlt21 rfl (Nat.le_trans hws hb22.size) (by rw [HTL.out]; have := hz.picks.1; omega) (by decide) ?_; intro v23 w23 hLB23 hg23)
      rw [← HA.out] at hLB23
      have hb23 := hb1.trans (grown_below hg23 hb1.size (fun k hk => hLB.fr k hk))
      go_roundw
      case rel => exact ⟨q + 1, by omega, by go_num, hLB23, hb23⟩
      case measure => simp [intOf]; omega
    · obtain rfl : q = m.picks.length := by omega
      rw [List.take_length] at hLB
      have fp := hLB.rl mov_req
      have fp := fp.mv mov_req (Nat.le_refl _) (Mv.weak (L := w.heap.size + 2) h16)
      have op := hLB.form
      have ra17 := ra16.below hbr
      have rr17 := rr16.below hbr
      have h17 := Nat.le_trans h16 hbr.size
      have fo := fo.mv (Mv.belowG hbr)
      have fg := fg.mv (Mv.belowG hbr)
      have fo5 := fo5.mv (Mv.belowG hbr)
      have fg5 := fg5.mv (Mv.belowG hbr)
      have fd := fd.mv (Mv.belowG hbr)
      have fs := fs.mv (Mv.belowG hbr)
      have fc := fc.mv mov_vote hbr.size (Mv.belowG hbr)
      have fv := fv.mv mov_vote hbr.size (Mv.belowG hbr)
      have fn := fn.mv mov_int hbr.size (Mv.belowG hbr)
      obtain ⟨xl, cl, hvl, _⟩ := hs.l.form
      clear ra16 rr16 hLB hql hq
      go_wp2_with (refine wl_set rfl _ _ _ rfl w.heap.size 21 _ rfl rfl _ _ ra17 (show 21 < 23 by decide) (by kernel_rfl) op ?_; intro w18 hr18 hg18; have ra18 : Row w18 w.heap.size 32 (mc m { s with o := vo, g := vg, o' := vo5, g' := vg5, d := v7, s := v9, c := v11, v := v13, n := v15, p := u3 }) := hr18.out; have c18 : (w18.alloc (.cells #[] 48)).cell? ⟨w.heap.size, 22, none⟩ = some (.slice xl m.reps.length cl) := by rw [← hvl]; exact (row_alloc ra18 (.cells #[] 48)).cell (j := 22) rfl)
      have rr18 := rr17.grown hg18 (fun e => by injection e with e; omega)
      have hB18 : Below w.heap.size w w18 := hBr.trans (grown_below hg18 hBr.size (fun k hk => by cases hk; exact Nat.le_refl _))
      have h18 := Nat.le_trans h17 hg18.size
      have fo := fo.mv (Mv.from (L := w.heap.size + 2) hg18 (by omega) (Nat.le_refl _))
      have fg := fg.mv (Mv.from (L := w.heap.size + 2) hg18 (by omega) (Nat.le_refl _))
      have fo5 := fo5.mv (Mv.from (L := w.heap.size + 2) hg18 (by omega) (Nat.le_refl _))
      have fg5 := fg5.mv (Mv.from (L := w.heap.size + 2) hg18 (by omega) (Nat.le_refl _))
      have fd := fd.mv (Mv.from (L := w.heap.size + 2) hg18 (by omega) (Nat.le_refl _))
      have fs := fs.mv (Mv.from (L := w.heap.size + 2) hg18 (by omega) (Nat.le_refl _))
      have fc := fc.mv mov_vote hg18.size (Mv.from (L := w.heap.size + 2) hg18 (by omega) (Nat.le_refl _))
      have fv := fv.mv mov_vote hg18.size (Mv.from (L := w.heap.size + 2) hg18 (by omega) (Nat.le_refl _))
      have fn := fn.mv mov_int hg18.size (Mv.from (L := w.heap.size + 2) hg18 (by omega) (Nat.le_refl _))
      have fp := fp.mv mov_req hg18.size (Mv.from (L := w.heap.size + 2) hg18 (by omega) (Nat.le_refl _))
      have HVL := (show Hid _ from hvl)
      clear ra17 rr17 hr18 hg18 c18 hvl hBr hbr h16 h17 hB16 op
      go_loopw [6, 60] (fun v i wr => ∃ q : Nat, q ≤ m.reps.length ∧ i = .int .i64 q ∧ LB RRep 48 8 w18.heap.size wr v (m.reps.take q) ∧ Below w18.heap.size w18 wr) (fun _ i _ => m.reps.length - (intOf i).toNat)
      case atStart => exact ⟨0, by omega, rfl, LB.fresh _ _ _ _ _ (Nat.le_refl _), below_alloc w18 _⟩
      case round =>
        obtain ⟨q, hq, rfl, hLB, hbr⟩ := hrel
        have hBr := below_and hB18 (Nat.le_refl _) hbr
        by_cases hql : q < m.reps.length
        · obtain ⟨a, ha⟩ : ∃ a, m.reps[q]? = some a := ⟨_, List.getElem?_eq_getElem hql⟩
          obtain ⟨bb, off, cap, hw1, _, _, _, hbb, hx1⟩ := hs.l.at (by omega)
          rw [HVL.out] at hw1
          injection hw1 with e1 e2 e3
          clear e2
          subst e1 e3
          obtain ⟨r1, hrl1, y1, hr1⟩ := hx1 q a ha
          have hza := hz.reps.2 a (List.mem_of_getElem? ha)
          have hrng := rangeAt_block y1 (hBr.block bb hbb)
          have HA := (show Hid (m.reps.take (q + 1) = m.reps.take q ++ [a]) from take_snoc' _ q a ha)
          have HTL := (show Hid ((m.reps.take q).length = q) from take_len (by omega))
          have k1 := one_RRep hr1
          have HR := (show Hid (RRep Any w r1 a) from hr1)
          obtain ⟨vd1, vs1, vp1, vg1, rfl, _, _, _, _⟩ := hr1
          have hrow0 := Row.new wr 48 [.int .i64 0, .int .i64 0, .int .i64 0, .int .i64 0, .slice none 0 0, .slice none 0 0, .slice none 0 0, .slice none 0 0]
          clear ha hx1 y1 hrl1
          go_wp2_with (first
            | (refine wpList_load_mid rfl _ _ rfl bb (off + q * 8) rfl [.int .i64 a.1.1, .int .i64 a.1.2, .int .i64 a.2.1, .int .i64 a.2.2.1, vd1, vs1, vp1, vg1] _ hrng Tryz.underlying48 rfl (by kernel_rfl) ?_)
            | (refine wl_store rfl _ _ _ rfl wr.heap.size [.int .i64 a.1.1, .int .i64 a.1.2, .int .i64 a.2.1, .int .i64 a.2.2.1, vd1, vs1, vp1, vg1] rfl rfl _ _ hrow0 rfl (by kernel_rfl) k1 ?_; intro w21 hr21 hg21)
            | (refine wl_load rfl _ _ rfl wr.heap.size rfl _ _ hr21.out _ Tryz.underlying48 rfl (by kernel_rfl) ?_))
          have hb21 : Below wr.heap.size wr w21 := (below_alloc wr (.cells ([.int .i64 0, .int .i64 0, .int .i64 0, .int .i64 0, .slice none 0 0, .slice none 0 0, .slice none 0 0, .slice none 0 0] : List Value).toArray 48)).trans (grown_below hg21 (by simp) (fun k hk => by cases hk; exact Nat.le_refl _))
          have hB21 := below_and hBr (Nat.le_refl _) hb21
          refine (copyReport_any w21 [.int .i64 a.1.1, .int .i64 a.1.2, .int .i64 a.2.1, .int .i64 a.2.2.1, vd1, vs1, vp1, vg1] a (mov_rep _ _ _ _ _ _ HR.out hB21.size (Mv.below hB21)) hza).mono ?_
          rintro e w22 ⟨r22, rfl, hR22, hb22⟩
          have k22 := one_RRep hR22
          have l22 : r22.length = 8 := len_RRep hR22
          have hR22' := hR22
          obtain ⟨q1, q2, q3, q4, rfl, _, _, _, _⟩ := hR22'
          have hb1 := below_and (below_and hbr (Nat.le_refl _) hb21) (Nat.le_refl _) hb22
          have hLB22 := (hLB.below mov_rep hb21).below mov_rep hb22
          have hlt21 := (hLB.below mov_rep hb21).lt
          have hws : w18.heap.size ≤ w21.heap.size := Nat.le_trans hbr.size hb21.size
          clear hrng hrow0 hr21 hg21
          go_wp2_with (at_builtin; refine wl_push mov_rep rfl _ _ _ rfl 48 8 128 _ Tryz.underlying30 Tryz.inf_reps rfl (by decide) w18.heap.size u6 (m.reps.take q) rfl hLB22 [.int .i64 a.1.1, .int .i64 a.1.2, .int .i64 a.2.1, .int .i64 a.2.2.1, q1, q2, q3, q4] a w21.heap.size hR22 l22 k22 hws hlt21 rfl (Nat.le_trans hws hb22.size) (by rw [HTL.out]; have := hz.reps.1; omega) (by decide) ?_; intro v23 w23 hLB23 hg23)
          rw [← HA.out] at hLB23
          have hb23 := hb1.trans (grown_below hg23 hb1.size (fun k hk => hLB.fr k hk))
          go_roundw
          case rel => exact ⟨q + 1, by omega, by go_num, hLB23, hb23⟩
          case measure => simp [intOf]; omega
        · obtain rfl : q = m.reps.length := by omega
          rw [List.take_length] at hLB
          have hLBk := hLB
          have MC : Mv (From (w.heap.size + 2)) (Btw (w.heap.size + 2) w18.heap.size) w18 wr := fun k hk hlt => ⟨hbr.block k hlt, hk, hlt⟩
          have fl' := hLB.rl mov_rep
          have fl' := fl'.mv mov_rep (Nat.le_refl _) (Mv.weak (L := w.heap.size + 2) h18)
          have ol := hLB.form
          have ra19 := ra18.below hbr
          have rr19 := rr18.below hbr
          have h19 := Nat.le_trans h18 hbr.size
          have xfo := fo.mv MC
          have fo := fo.mv (Mv.belowG hbr)
          have xfg := fg.mv MC
          have fg := fg.mv (Mv.belowG hbr)
          have xfo5 := fo5.mv MC
          have fo5 := fo5.mv (Mv.belowG hbr)
          have xfg5 := fg5.mv MC
          have fg5 := fg5.mv (Mv.belowG hbr)
          have xfd := fd.mv MC
          have fd := fd.mv (Mv.belowG hbr)
          have xfs := fs.mv MC
          have fs := fs.mv (Mv.belowG hbr)
          have xfc := fc.mv mov_vote hbr.size MC
          have fc := fc.mv mov_vote hbr.size (Mv.belowG hbr)
          have xfv := fv.mv mov_vote hbr.size MC
          have fv := fv.mv mov_vote hbr.size (Mv.belowG hbr)
          have xfn := fn.mv mov_int hbr.size MC
          have fn := fn.mv mov_int hbr.size (Mv.belowG hbr)
          have xfp := fp.mv mov_req hbr.size MC
          have fp := fp.mv mov_req hbr.size (Mv.belowG hbr)
          have hso : SOk (From (w.heap.size + 2)) wr m { s with o := vo, g := vg, o' := vo5, g' := vg5, d := v7, s := v9, c := v11, v := v13, n := v15, p := u3, l := u6 } := ⟨fo, fg, fo5, fg5, fd, fs, fc, fv, fn, fp, fl'⟩
          have hone := hso.one
          go_wp2_with (first
            | (refine wl_set rfl _ _ _ rfl w.heap.size 22 _ rfl rfl _ _ ra19 (show 22 < 23 by decide) (by kernel_rfl) ol ?_; intro wx hrx hgx; have rax : Row wx w.heap.size 32 (mc m { s with o := vo, g := vg, o' := vo5, g' := vg5, d := v7, s := v9, c := v11, v := v13, n := v15, p := u3, l := u6 }) := hrx.out; have rrx := rr19.grown hgx (fun e => by injection e with e; omega))
            | (refine wl_load rfl _ _ rfl w.heap.size rfl _ _ rax _ Tryz.underlying32 rfl (by kernel_rfl) ?_)
            | (refine wl_store rfl _ _ _ rfl (w.heap.size + 1) (mc m { s with o := vo, g := vg, o' := vo5, g' := vg5, d := v7, s := v9, c := v11, v := v13, n := v15, p := u3, l := u6 }) rfl rfl _ _ rrx rfl (by kernel_rfl) hone ?_; intro wy hry hgy))
          have hry := hry.out
          have hsx := hso.mv hgx.size (Mv.from (L := w.heap.size + 2) hgx (by omega) (Nat.le_refl _))
          have hsy := hsx.mv hgy.size (Mv.from (L := w.heap.size) hgy (by omega) (by omega))
          have hBx := hBr.trans (grown_below hgx hBr.size (fun k hk => by cases hk; exact Nat.le_refl _))
          have hBy := hBx.trans (grown_below hgy hBx.size (fun k hk => by cases hk; omega))
          refine bodyPost_ret (v := .agg (mc m { s with o := vo, g := vg, o' := vo5, g' := vg5, d := v7, s := v9, c := v11, v := v13, n := v15, p := u3, l := u6 }).toArray) (results_cell_row rfl _ _ (w.heap.size + 1) _ _ (0, 0) _ (by rfl) hry Tryz.underlying32 rfl (by kernel_rfl)) rfl ?_
          have MX : Mv (Btw (w.heap.size + 2) w18.heap.size) (Btw (w.heap.size + 2) w18.heap.size) wr wx := fun k hk hlt => ⟨hgx.block k hlt (fun e => by injection e with e; have := hk.1; omega), hk⟩
          have MY : Mv (Btw (w.heap.size + 2) w18.heap.size) (Btw w.heap.size w18.heap.size) wx wy := fun k hk hlt => ⟨hgy.block k hlt (fun e => by injection e with e; have := hk.1; omega), by have := hk.1; omega, hk.2⟩
          have hLx := hLBk.grown mov_rep hgx (by omega)
          have hLy := hLx.grown mov_rep hgy (by omega)
          exact ⟨_, w18.heap.size, rfl, ⟨(xfo.mv MX).mv MY, (xfg.mv MX).mv MY, (xfo5.mv MX).mv MY, (xfg5.mv MX).mv MY, (xfd.mv MX).mv MY, (xfs.mv MX).mv MY, (xfc.mv mov_vote hgx.size MX).mv mov_vote hgy.size MY, (xfv.mv mov_vote hgx.size MX).mv mov_vote hgy.size MY, (xfn.mv mov_int hgx.size MX).mv mov_int hgy.size MY, (xfp.mv mov_req hgx.size MX).mv mov_req hgy.size MY, hLy, by omega, Nat.le_trans hbr.size (Nat.le_trans hgx.size hgy.size)⟩, hBy⟩
end Go.Proofs.YtijmecplechhgaaGreatDoor
end
