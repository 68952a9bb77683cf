/- The walks over the document's copies: messages. (Laid by mk5c.py.) -/
import Derived.Test.YtgjepofinpmcpaaGreatDoorMAK
import Derived.Test.YtgjepofinpmcpaaGreatDoorMBR
set_option linter.unusedVariables false
namespace Go.Proofs.YtgjepofinpmcpaaGreatDoor
section
open Go.RowKit Oct
theorem one8 {a b c d : Int} {s t u v : Value} (hs : s.oneCell' = true) (ht : t.oneCell' = true) (hu : u.oneCell' = true) (hv : v.oneCell' = true) : ∀ x ∈ [Value.int .i64 a, .int .i64 b, .int .i64 c, .int .i64 d, s, t, u, v], x.oneCell' = true := by
  intro x hx
  simp only [List.mem_cons, List.not_mem_nil, or_false] at hx
  rcases hx with rfl | rfl | rfl | rfl | rfl | rfl | rfl | rfl <;> first | rfl | assumption
theorem zOj {G : Nat → Prop} {w : World} {v : Value} {l : List Int} (h : RT G w v l) : ∃ ao n cap, v = .slice ao n cap := by
  obtain ⟨ao, cap, e, _⟩ := h.form; exact ⟨ao, _, cap, e⟩
theorem rl_slice {α : Type} {R : (Nat → Prop) → World → List Value → α → Prop} {k : Nat} {G : Nat → Prop} {w : World} {v : Value} {ys : List α} (h : RL R k G w v ys) : ∃ ao n cap, v = .slice ao n cap := by
  obtain ⟨ao, cap, e, _⟩ := h.form; exact ⟨ao, _, cap, e⟩
set_option maxRecDepth 10000 in
set_option maxHeartbeats 4000000 in
theorem zJc (w : World) (r : List Value) (x : zF8) (h : zDo Any w r x) (hz : szR x) :
    Calls Tryz.prog 30 #[.agg r.toArray] w fun e w' => ∃ r', e = .returned (.agg r'.toArray) ∧ zDo (zB0 w.heap.size) w' r' x ∧ Below w.heap.size w w' := by
  obtain ⟨vd, vs, vp, vg, rfl, hd, hs, hp, hg⟩ := h
  obtain ⟨z1, z2, z3, z4⟩ := hz
  obtain ⟨ap, cp, rfl, hmp⟩ := hp.form
  obtain ⟨w2, hw2⟩ : ∃ w2, w2 = (w.alloc (.cells #[.int .i64 x.1.1, .int .i64 x.1.2, .int .i64 x.2.1, .int .i64 x.2.2.1, vd, vs, .slice ap x.2.2.2.2.2.1.length cp, vg] 68)).alloc (.cells #[.int .i64 0, .int .i64 0, .int .i64 0, .int .i64 0, .slice none 0 0, .slice none 0 0, .slice none 0 0, .slice none 0 0] 68) := ⟨_, rfl⟩
  have ra : Row w2 w.heap.size 68 [.int .i64 x.1.1, .int .i64 x.1.2, .int .i64 x.2.1, .int .i64 x.2.2.1, vd, vs, .slice ap x.2.2.2.2.2.1.length cp, vg] := by rw [hw2]; exact zA4 (Row.new w 68 _) _
  have rr : Row w2 (w.heap.size + 1) 68 [.int .i64 0, .int .i64 0, .int .i64 0, .int .i64 0, .slice none 0 0, .slice none 0 0, .slice none 0 0, .slice none 0 0] := by
    rw [hw2]
    have := Row.new (w.alloc (.cells #[.int .i64 x.1.1, .int .i64 x.1.2, .int .i64 x.2.1, .int .i64 x.2.2.1, vd, vs, .slice ap x.2.2.2.2.2.1.length cp, vg] 68)) 68 [.int .i64 0, .int .i64 0, .int .i64 0, .int .i64 0, .slice none 0 0, .slice none 0 0, .slice none 0 0, .slice none 0 0]
    simpa using this
  have hB : Below w.heap.size w w2 := by rw [hw2]; exact ((Below.refl _ w).alloc zN _).alloc (by simp) _
  have hsz : w2.heap.size = w.heap.size + 2 := by rw [hw2]; simp
  go_enter Tryz.func30, Tryz.ntmps30
  go_upto_region 1 with fail
  rw [← hw2]
  clear hw2
  have HS := (show Hid (w2.heap.size = w.heap.size + 2) from hsz)
  clear hsz
  generalize hxl : x.2.2.2.2.2.1.length = np at *
  have c2 := (zA4 ra (.cells #[] 5)).cell (j := 4) rfl
  have hd2 := (hd.mv (Mv.below hB)).1
  go_wp2_with (first
    | (at_builtin; refine zCi rfl _ _ rfl rfl _ x.2.2.2.1 rfl hd2 (Nat.le_trans z1 (by decide)) ?_; intro v3 w3 hown3 hfr3 hb3; have ra3 := ra.below hb3)
    | (refine zAb rfl _ _ _ rfl w.heap.size 4 _ rfl rfl _ _ ra3 (show 4 < 8 by decide) (by kernel_rfl) (zDv hown3) ?_; intro w4 ra4 hg4; have ra4' : Row w4 w.heap.size 68 [.int .i64 x.1.1, .int .i64 x.1.2, .int .i64 x.2.1, .int .i64 x.2.2.1, v3, vs, .slice ap np cp, vg] := ra4.out; have c3 := (zA4 ra4' (.cells #[] 5)).cell (j := 7) rfl; have hB3 := zA1 hB zN hb3; have hB4 : Below w.heap.size w w4 := hB3.trans (zA5 hg4 hB3.size (fun k hk => by cases hk; exact zN)); have hg2 := (hg.mv (Mv.below hB4)).1)
    | (at_builtin; refine zCi rfl _ _ rfl rfl _ x.2.2.2.2.2.2 rfl hg2 (Nat.le_trans z4 (by decide)) ?_; intro v5 w5 hown5 hfr5 hb5; have ra5 := ra4'.below hb5)
    | (refine zAb rfl _ _ _ rfl w.heap.size 7 _ rfl rfl _ _ ra5 (show 7 < 8 by decide) (by kernel_rfl) (zDv hown5) ?_; intro w6 ra6 hg6; have ra6' : Row w6 w.heap.size 68 [.int .i64 x.1.1, .int .i64 x.1.2, .int .i64 x.2.1, .int .i64 x.2.2.1, v3, vs, .slice ap np cp, v5] := ra6.out; have rr6 := (((rr.below hb3).grown hg4 (fun e => by injection e with e; omega)).below hb5).grown hg6 (fun e => by injection e with e; omega); have c5 := ra6'.cell (j := 5) rfl))
  have hs2 := HS.out
  have f3 : RT (zB0 w2.heap.size) w3 v3 x.2.2.2.1 := RT.own hown3 hd2.1 hfr3
  have f4 := f3.mv (Mv.from (L := w.heap.size + 2) hg4 (by omega) (by omega))
  have f5 := f4.mv (Mv.belowG hb5)
  have f6 := f5.mv (Mv.from (L := w.heap.size + 2) hg6 (by omega) zN)
  have hs4 := Nat.le_trans hb3.size hg4.size
  have g5 : RT (zB0 w4.heap.size) w5 v5 x.2.2.2.2.2.2 := RT.own hown5 hg2.1 hfr5
  have g6 := g5.mv (Mv.from (L := w.heap.size + 2) hg6 (by omega) (by omega))
  have hs6 := Nat.le_trans hb5.size hg6.size
  have hB5 := zA1 hB4 zN hb5
  have hB6 := hB5.trans (zA5 hg6 hB5.size (fun k hk => by cases hk; exact zN))
  have h26 : w.heap.size + 2 ≤ w6.heap.size := by omega
  clear ra rr hB c2 hd2 hown3 hfr3 hb3 ra3 ra4 ra4' hg4 c3 hB3 hB4 hg2 hown5 hfr5 hb5 ra5 ra6 hg6 f3 f4 f5 g5 hs4 hs6 hB5 hs2 HS
  refine (zCv w6 vs _ (hs.mv zA9 hB6.size (Mv.below hB6)) z2).mono ?_
  rintro e w7 ⟨v7, rfl, hR7, hb7⟩
  have ra7 := ra6'.below hb7
  have rr7 := rr6.below hb7
  have hB7 := zA1 hB6 zN hb7
  have f7 := f6.mv (Mv.belowG hb7)
  have g7 := g6.mv (Mv.belowG hb7)
  have hR7 := hR7.mv zA9 zN (Mv.weak (L := w.heap.size + 2) h26)
  have hone7 := hR7.one
  clear ra6' rr6 hB6 f6 g6 c5
  go_wp2_with (refine zAb rfl _ _ _ rfl w.heap.size 5 _ rfl rfl _ _ ra7 (show 5 < 8 by decide) (by kernel_rfl) hone7 ?_; intro w8 ra8 hg8; have ra8' : Row w8 w.heap.size 68 [.int .i64 x.1.1, .int .i64 x.1.2, .int .i64 x.2.1, .int .i64 x.2.2.1, v3, v7, .slice ap np cp, v5] := ra8.out; have c8 := (zA4 ra8' (.cells #[] 107)).cell (j := 6) rfl)
  have f8 := f7.mv (Mv.from (L := w.heap.size + 2) hg8 (by omega) zN)
  have g8 := g7.mv (Mv.from (L := w.heap.size + 2) hg8 (by omega) zN)
  have hR8 := hR7.mv zA9 hg8.size (Mv.from (L := w.heap.size + 2) hg8 (by omega) zN)
  have rr8 := rr7.grown hg8 (fun e => by injection e with e; omega)
  have hB8 : Below w.heap.size w w8 := hB7.trans (zA5 hg8 hB7.size (fun k hk => by cases hk; exact zN))
  have h28 : w.heap.size + 2 ≤ w8.heap.size := Nat.le_trans (Nat.le_trans h26 hb7.size) hg8.size
  have hlm : (np : Int) ≤ 9223372036854775807 := by rw [← hxl]; exact zUl hp
  obtain ⟨zp1, zp2⟩ := z3
  rw [hxl] at zp1
  clear ra7 rr7 hB7 f7 g7 hR7 hone7 ra8 hg8 hb7 c8 hs hd hg
  generalize hys : x.2.2.2.2.2.1 = ys at *
  have HXL := (show Hid (ys.length = np) from hxl)
  have HYS := (show Hid (x.2.2.2.2.2.1 = ys) from hys)
  have HZ1 := (show Hid (np * 112 ≤ 140737488351232) from zp1)
  have HZ2 := (show Hid (∀ y ∈ ys, szP y) from zp2)
  clear hxl hys zp1 zp2
  go_loopw [3, 24] (fun v i wr => ∃ q : Nat, q ≤ np ∧ i = .int .i64 q ∧ LB zBy 107 8 w8.heap.size wr v (ys.take q) ∧ Below w8.heap.size w8 wr) (fun _ i _ => np - (intOf i).toNat)
  case atStart => exact ⟨0, by omega, rfl, LB.fresh _ _ _ _ _ zN, zA0 w8 _⟩
  case round =>
    obtain ⟨q, hq, rfl, hLB, hbr⟩ := hrel
    have hBr := zA1 hB8 zN hbr
    by_cases hql : q < np
    · obtain ⟨a, ha⟩ : ∃ a, ys[q]? = some a := ⟨_, List.getElem?_eq_getElem (by have := HXL.out; omega)⟩
      obtain ⟨bb, off, cap, hw1, _, _, _, hbb, hx1⟩ := hp.at (by have := HXL.out; omega)
      injection hw1 with e1 e2 e3
      clear e2
      subst e1 e3
      obtain ⟨r1, _, y1, vo, vq, vc, rfl, t1, t2, t3⟩ := hx1 q a ha
      have hza := HZ2.out a (List.mem_of_getElem? ha)
      have hrng := zAw y1 (hBr.block bb hbb)
      have HA := (show Hid (ys.take (q + 1) = ys.take q ++ [a]) from zBa ys q a ha)
      have HTL := (show Hid ((ys.take q).length = q) from zHd (by have := HXL.out; omega))
      have k1 := zC8 (G := Any) (w := w) (x := a) ⟨vo, vq, vc, rfl, t1, t2, t3⟩
      have hrow0 := Row.new wr 107 [.int .i64 0, .int .i64 0, .int .i64 0, .int .i64 0, .int .i64 0, .slice none 0 0, .slice none 0 0, .slice none 0 0]
      clear ha hx1 y1
      go_wp2_with (first
        | (refine wpList_load_mid rfl _ _ rfl bb (off + q * 8) rfl [.int .i64 a.1, .int .i64 a.2.1.1, .int .i64 a.2.1.2, .int .i64 a.2.2.1.1, .int .i64 a.2.2.1.2.1, vo, vq, vc] _ hrng Tryz.underlying107 rfl (by kernel_rfl) ?_)
        | (refine zA7 rfl _ _ _ rfl wr.heap.size [.int .i64 a.1, .int .i64 a.2.1.1, .int .i64 a.2.1.2, .int .i64 a.2.2.1.1, .int .i64 a.2.2.1.2.1, vo, vq, vc] rfl rfl _ _ hrow0 rfl (by kernel_rfl) k1 ?_; intro w9 hr9 hg9))
      have hb9 : Below wr.heap.size wr w9 := (zA0 wr (.cells ([.int .i64 0, .int .i64 0, .int .i64 0, .int .i64 0, .int .i64 0, .slice none 0 0, .slice none 0 0, .slice none 0 0] : List Value).toArray 107)).trans (zA5 hg9 (by simp) (fun k hk => by cases hk; exact zN))
      have hr9 := hr9.out
      have hB9 := zA1 hBr zN hb9
      have hB9d : Below w.heap.size w w9.drew := hB9.trans ⟨rfl, rfl, rfl, zN, fun _ _ => rfl⟩
      have hb98 := zA1 hbr zN hb9
      have hLB9 := hLB.below zAh hb9
      have hlt9 : ∀ g, u3.ownBlock = some g → g < w9.heap.size := hLB9.lt
      have hnv : u3.ownBlock ≠ some wr.heap.size := fun e => absurd (hLB.lt _ e) (Nat.lt_irrefl _)
      have p0 := hr9.cell (j := 0) rfl
      have p1 := hr9.cell (j := 1) rfl
      have p2 := hr9.cell (j := 2) rfl
      have p3 := hr9.cell (j := 3) rfl
      have p4 := hr9.cell (j := 4) rfl
      have p5 := hr9.cell (j := 5) rfl
      have p6 := hr9.cell (j := 6) rfl
      have p7 := hr9.cell (j := 7) rfl
      have hdw : Below w9.heap.size w9 w9.drew := ⟨rfl, rfl, rfl, zN, fun _ _ => rfl⟩
      have SK := (show Hid (∀ u, Below w9.heap.size w9 u → u.cell? ⟨wr.heap.size, 0, none⟩ = some (Value.int .i64 a.1) ∧ u.cell? ⟨wr.heap.size, 1, none⟩ = some (Value.int .i64 a.2.1.1) ∧ u.cell? ⟨wr.heap.size, 2, none⟩ = some (Value.int .i64 a.2.1.2) ∧ u.cell? ⟨wr.heap.size, 3, none⟩ = some (Value.int .i64 a.2.2.1.1) ∧ u.cell? ⟨wr.heap.size, 4, none⟩ = some (Value.int .i64 a.2.2.1.2.1) ∧ u.cell? ⟨wr.heap.size, 5, none⟩ = some (vo) ∧ u.cell? ⟨wr.heap.size, 6, none⟩ = some (vq) ∧ u.cell? ⟨wr.heap.size, 7, none⟩ = some (vc)) from fun u hu => ⟨zBf hu p0, zBf hu p1, zBf hu p2, zBf hu p3, zBf hu p4, zBf hu p5, zBf hu p6, zBf hu p7⟩)
      have hws : w8.heap.size ≤ w9.heap.size := hb98.size
      have HQ := (show Hid (Calls Tryz.prog 16 #[.agg ([.int .i64 a.2.2.1.1, .int .i64 a.2.2.1.2.1, vo, vq] : List Value).toArray] w9.drew _) from zDy w9.drew [.int .i64 a.2.2.1.1, .int .i64 a.2.2.1.2.1, vo, vq] a.2.2.1 ⟨_, _, rfl, t1.mv (Mv.below hB9d), t2.mv (Mv.below hB9d)⟩ hza.1)
      clear hrng hrow0 hg9
      go_region_held3 (fun u => u.cell? ⟨wr.heap.size, 0, none⟩ = some (Value.int .i64 a.1) ∧ u.cell? ⟨wr.heap.size, 1, none⟩ = some (Value.int .i64 a.2.1.1) ∧ u.cell? ⟨wr.heap.size, 2, none⟩ = some (Value.int .i64 a.2.1.2) ∧ u.cell? ⟨wr.heap.size, 3, none⟩ = some (Value.int .i64 a.2.2.1.1) ∧ u.cell? ⟨wr.heap.size, 4, none⟩ = some (Value.int .i64 a.2.2.1.2.1) ∧ u.cell? ⟨wr.heap.size, 5, none⟩ = some (vo) ∧ u.cell? ⟨wr.heap.size, 6, none⟩ = some (vq) ∧ u.cell? ⟨wr.heap.size, 7, none⟩ = some (vc))
        (first | exact SK.out _ (by assumption) | exact hS13 | go_keep)
        (first
          | (go_at_call 16; refine HQ.out.mono ?_; rintro e w10 ⟨r10, rfl, hR10, hb10⟩; obtain ⟨q1, q2, rfl, m1, m2⟩ := hR10; obtain ⟨ao1, n1, c1, rfl⟩ := zOj m1; obtain ⟨ao2, n2, c2, rfl⟩ := zOj m2; have hb10w : Below w9.heap.size w9 w10 := hdw.trans hb10; have hB10 := zA1 hB9 zN hb10w)
          | (go_at_call 29; refine (zCv w10 vc _ (t3.mv zA9 hB10.size (Mv.below hB10)) hza.2).mono ?_; rintro e w11 ⟨v11, rfl, hR11, hb11⟩; obtain ⟨ao3, n3, c3, rfl⟩ := rl_slice hR11; have hb11w : Below w9.heap.size w9 w11 := zA1 hb10w zN hb11; have hLB11 := hLB9.below zAh hb11w; have hRc : zBy (zB0 w9.heap.size) w11 [.int .i64 a.1, .int .i64 a.2.1.1, .int .i64 a.2.1.2, .int .i64 a.2.2.1.1, .int .i64 a.2.2.1.2.1, .slice ao1 n1 c1, .slice ao2 n2 c2, .slice ao3 n3 c3] a := ⟨_, _, _, rfl, m1.mv (Mv.belowF hb11 zN), m2.mv (Mv.belowF hb11 zN), hR11.mv zA9 zN (Mv.weak hb10w.size)⟩)
          | (refine zMf zAh (by rfl) _ _ _ (by rfl) 107 8 112 _ Tryz.underlying66 Tryz.inf_preps rfl (by decide) w8.heap.size u3 (ys.take q) (by rfl) hLB11 [.int .i64 a.1, .int .i64 a.2.1.1, .int .i64 a.2.1.2, .int .i64 a.2.2.1.1, .int .i64 a.2.2.1.2.1, .slice ao1 n1 c1, .slice ao2 n2 c2, .slice ao3 n3 c3] a w9.heap.size hRc rfl (zC8 hRc) hws hlt9 (by rfl) (Nat.le_trans hws hb11w.size) (by rw [HTL.out]; have := HZ1.out; omega) (by decide) ?_; intro v13 w13 hLB13 hg13; have hS13 : w13.cell? ⟨wr.heap.size, 0, none⟩ = some (Value.int .i64 a.1) ∧ w13.cell? ⟨wr.heap.size, 1, none⟩ = some (Value.int .i64 a.2.1.1) ∧ w13.cell? ⟨wr.heap.size, 2, none⟩ = some (Value.int .i64 a.2.1.2) ∧ w13.cell? ⟨wr.heap.size, 3, none⟩ = some (Value.int .i64 a.2.2.1.1) ∧ w13.cell? ⟨wr.heap.size, 4, none⟩ = some (Value.int .i64 a.2.2.1.2.1) ∧ w13.cell? ⟨wr.heap.size, 5, none⟩ = some (vo) ∧ w13.cell? ⟨wr.heap.size, 6, none⟩ = some (vq) ∧ w13.cell? ⟨wr.heap.size, 7, none⟩ = some (vc) := ⟨zAt hg13 (zBf hb11w p0) hnv, zAt hg13 (zBf hb11w p1) hnv, zAt hg13 (zBf hb11w p2) hnv, zAt hg13 (zBf hb11w p3) hnv, zAt hg13 (zBf hb11w p4) hnv, zAt hg13 (zBf hb11w p5) hnv, zAt hg13 (zBf hb11w p6) hnv, zAt hg13 (zBf hb11w p7) hnv⟩))
      rw [← HA.out] at hLB13
      have hb811 := zA1 hb98 zN hb11w
      have hb813 := hb811.trans (zA5 hg13 hb811.size (fun k hk => hLB.fr k hk))
      go_wp2_with fail
      go_roundw
      case rel => exact ⟨q + 1, by omega, by go_num, hLB13, hb813⟩
      case measure => simp [intOf]; omega
    · obtain rfl : q = np := by omega
      rw [← HXL.out, List.take_length] at hLB
      have hrl := hLB.rl zAh
      have hone := hLB.form
      have raE := ra8'.below hbr
      have rrE := rr8.below hbr
      have fE := f8.mv (Mv.belowG hbr)
      have gE := g8.mv (Mv.belowG hbr)
      have hRE := hR8.mv zA9 hbr.size (Mv.belowG hbr)
      have k3 := fE.one
      have k5 := gE.one
      have k7 := hRE.one
      go_wp2_with (first
        | (refine zAb rfl _ _ _ rfl w.heap.size 6 _ rfl rfl _ _ raE (show 6 < 8 by decide) (by kernel_rfl) hone ?_; intro wx rax hgx; have rax' : Row wx w.heap.size 68 [.int .i64 x.1.1, .int .i64 x.1.2, .int .i64 x.2.1, .int .i64 x.2.2.1, v3, v7, u3, v5] := rax.out; have rrx := rrE.grown hgx (fun e => by injection e with e; omega))
        | (refine zAa rfl _ _ rfl w.heap.size rfl _ _ rax' _ Tryz.underlying68 rfl (by kernel_rfl) ?_)
        | (refine zA7 rfl _ _ _ rfl (w.heap.size + 1) [.int .i64 x.1.1, .int .i64 x.1.2, .int .i64 x.2.1, .int .i64 x.2.2.1, v3, v7, u3, v5] rfl rfl _ _ rrx rfl (by kernel_rfl) (one8 k3 k7 hone k5) ?_; intro wy hry hgy))
      have hry := hry.out
      have f9 := (fE.mv (Mv.from (L := w.heap.size + 2) hgx (by omega) zN)).mv (Mv.from (L := w.heap.size) hgy (by omega) (by omega))
      have g9 := (gE.mv (Mv.from (L := w.heap.size + 2) hgx (by omega) zN)).mv (Mv.from (L := w.heap.size) hgy (by omega) (by omega))
      have s9 := (hRE.mv zA9 hgx.size (Mv.from (L := w.heap.size + 2) hgx (by omega) zN)).mv zA9 hgy.size (Mv.from (L := w.heap.size) hgy (by omega) (by omega))
      have p9 := (hrl.mv zAh hgx.size (Mv.from (L := w.heap.size + 2) hgx (by omega) h28)).mv zAh hgy.size (Mv.from (L := w.heap.size) hgy (by omega) (by omega))
      have hBx := hBr.trans (zA5 hgx hBr.size (fun k hk => by cases hk; exact zN))
      have hBy := hBx.trans (zA5 hgy hBx.size (fun k hk => by cases hk; omega))
      refine bodyPost_ret (v := .agg ([.int .i64 x.1.1, .int .i64 x.1.2, .int .i64 x.2.1, .int .i64 x.2.2.1, v3, v7, u3, v5] : List Value).toArray) (results_cell_row rfl _ _ (w.heap.size + 1) _ _ (0, 0) _ (by rfl) hry Tryz.underlying68 rfl (by kernel_rfl)) rfl ?_
      exact ⟨_, rfl, ⟨_, _, _, _, rfl, f9, s9, by rw [HYS.out]; exact p9, g9⟩, hBy⟩
end
section
open Go.RowKit Oct
def ic (l : List Int) : List Value := l.map (Value.int .i64)
theorem ic_one (l : List Int) : ∀ u ∈ ic l, u.oneCell' = true := ints_oneCell .i64 l
theorem ints_rdv {G : Nat → Prop} {w : World} {v : Value} {ys : List Int} (h : RL zG2 1 G w v ys) : Rdv w v (ic ys) ∨ (ys = [] ∧ ∃ c, v = .slice none 0 c) := by
  by_cases hl : 0 < ys.length
  · left
    obtain ⟨b, off, cap, rfl, h1, h2, h3, h4, h5⟩ := h.at hl
    refine ⟨some ⟨b, off, none⟩, cap, by simp [ic], by simpa [ic] using h1, h2, fun e => (by cases e), fun a ha j u hu => ?_⟩
    cases ha
    rw [Addr.add_mid]
    simp only [ic, List.getElem?_map, Option.map_eq_some_iff] at hu
    obtain ⟨y, hy, rfl⟩ := hu
    obtain ⟨r, _, hr, he⟩ := h5 j y hy
    have he : r = [.int .i64 y] := he
    subst he
    have := hr 0 _ rfl
    simpa using this
  · obtain rfl : ys = [] := List.eq_nil_of_length_eq_zero (by omega)
    obtain ⟨ao, cap, rfl, hc⟩ := h.form
    cases ao with
    | none => exact .inr ⟨rfl, cap, rfl⟩
    | some ad => exact .inl ⟨some ad, cap, rfl, Nat.zero_le _, hc, fun e => (by cases e), fun b hb j u hu => by simp [ic] at hu⟩
theorem ints_rl {w : World} {v : Value} {ys : List Int} {B : Nat} (h : Own w 3 v (ic ys)) (hf : Fr B v) : RL zG2 1 (zB0 B) w v ys := by
  have hflat : (ys.map fun y => [Value.int .i64 y]).flatten = ic ys := by
    clear h hf
    unfold ic
    induction ys with
    | nil => rfl
    | cons y ys ih => rw [List.map_cons, List.flatten_cons, ih]; rfl
  have hlen : (ic ys).length = (ys.map fun y => [Value.int .i64 y]).length := by simp [ic]
  have hall : ∀ l : List Int, zC0 (zG2 (fun b => B ≤ b ∧ v.ownBlock ≠ some b) w) (l.map fun y => [Value.int .i64 y]) l := fun l => by
    induction l with
    | nil => exact trivial
    | cons y l ih => exact ⟨rfl, ih⟩
  have hLB : LB zG2 3 1 B w v ys := ⟨ys.map fun y => [.int .i64 y], by intro r hr; obtain ⟨y, _, rfl⟩ := List.mem_map.1 hr; rfl, by rw [hflat, ← hlen]; exact h, hf, hall ys⟩
  exact hLB.rl zAl
theorem zL2 {w : World} {ops : Array Oper} {rest : List Oper} {o : Oper} {a : Act} {Q : Exit → Act → World → Prop} (hgd : o.guard = none) (s x : Operand)
    (ho : o.op = .call { callee := .builtin .append, args := #[s, x], argTypes := #[36, 36] })
    (hs : a.eval s = .slice (some ⟨w.heap.size, 0, none⟩) 0 0) (sv : Value) (ys : List Int) (hx : a.eval x = sv) (hsrc : RL zG2 1 Any w sv ys) (hb : ys.length * 8 ≤ 140737488351232)
    (h : ∀ v' w', Own w' 3 v' (ic ys) → Fr w.heap.size v' → Below w.heap.size w w' → wpList Tryz.prog ops Q rest (a.put o.dst v') w') : wpList Tryz.prog ops Q (o :: rest) a (w.alloc (.cells #[] 3)) := by
  obtain ⟨i0, hi, hz0, hz1, hz2⟩ := info_parts Tryz.infoI
  have hsrc1 := hsrc.mv zAl (zA0 w (.cells #[] 3)).size (Mv.below (zA0 w _))
  have hil : (ic ys).length = ys.length := by simp [ic]
  rcases ints_rdv hsrc1 with hr | ⟨rfl, c, rfl⟩
  case inr =>
    refine wpList_plain hgd fun K hK => ?_
    have hrun : (Builtin.append_ #[36, 36] o.type #[.slice (some ⟨w.heap.size, 0, none⟩) 0 0, .slice none 0 c]).run Tryz.prog (w.alloc (.cells #[] 3)) = .ok (.slice (some ⟨w.heap.size, 0, none⟩) 0 0) (w.alloc (.cells #[] 3)) := by
      simp [Builtin.append_, run_underlying Tryz.underlying36, sizeOf, typeInfo, hi, Builtin.lenOf, Builtin.firstCells, storeCells]
    unfold Oper.wp
    simp [execOp, ho, resolve, invoke, builtin, hs, hx, hrun, Result.andThen]
    exact hK _ _ (h _ _ (World.ownsRow_lit (base := 0) (size := 1) w #[] 0 (Nat.zero_le _) (by decide) rfl) (zBx _ _ _ _ zN) (zA0 w _))
  refine zEr (zE1 hgd) s x 36 ho 3 i0 (.int .i64 0) 8 Tryz.underlying36 hi hz0 hz1 hz2 rfl _ [] hs (World.ownsRow_lit (base := 0) (size := 1) w #[] 0 (Nat.zero_le _) (by decide) rfl) sv (ic ys) hx hr (ic_one _) (by rw [hil]; unfold maxLen; simp; omega) (by rw [hil]; simp; omega) ?_
  intro v' w' happ
  rw [List.nil_append] at happ
  have hp := happ.pre (zA0 w _)
  exact h v' w' hp.own (happ.fr (zBx _ _ _ _ zN) (by simp)) ((zA0 w _).trans (happ.below (zBx _ _ _ _ zN) (by simp)))
set_option maxRecDepth 20000 in
set_option maxHeartbeats 8000000 in
theorem zNy (w : World) (m : PMsg) (s : SV) (hs : SOk Any w m s) (hz : szM m) :
    Calls Tryz.prog 13 #[.agg (mc m s).toArray] w fun e w' => ∃ s', e = .returned (.agg (mc m s').toArray) ∧ SOk (zB0 w.heap.size) w' m s' ∧ Below w.heap.size w w' := by
  obtain ⟨w2, hw2⟩ : ∃ w2, w2 = (w.alloc (.cells (mc m s).toArray 40)).alloc (.cells (mc zAc sv0).toArray 40) := ⟨_, rfl⟩
  have ra : Row w2 w.heap.size 40 (mc m s) := by rw [hw2]; exact zA4 (Row.new w 40 _) _
  have rr : Row w2 (w.heap.size + 1) 40 (mc zAc sv0) := by
    rw [hw2]
    have := Row.new (w.alloc (.cells (mc m s).toArray 40)) 40 (mc zAc sv0)
    simpa using this
  have hB2 : Below w.heap.size w w2 := by rw [hw2]; exact ((Below.refl _ w).alloc zN _).alloc (by simp) _
  have h2 : w.heap.size + 2 ≤ w2.heap.size := by rw [hw2]; simp
  have hzr : ∀ v ∈ mc zAc sv0, v.oneCell' = true := (SOk.zero Any w 0).one
  go_enter Tryz.func13, Tryz.ntmps13
  go_upto_region 1 with fail
  rw [show (Obj.cells #[Value.int .i64 0, .int .i64 0, .int .i64 0, .int .i64 0, .int .i64 0, .int .i64 0, .int .i64 0, .int .i64 0, .int .i64 0, .int .i64 0, .slice none 0 0, .slice none 0 0, .int .i64 0, .int .i64 0, .slice none 0 0, .slice none 0 0, .slice none 0 0, .slice none 0 0, .slice none 0 0, .slice none 0 0, .slice none 0 0, .slice none 0 0, .slice none 0 0] 40) = .cells (mc zAc sv0).toArray 40 from rfl, ← hw2]
  clear hw2
  go_wp2_with (refine zC4 rfl _ _ rfl w.heap.size 8 rfl _ _ ra [.int .i64 m.req.1, .int .i64 m.req.2.1, s.o, s.g] rfl _ Tryz.underlying34 rfl (by kernel_rfl) ?_)
  refine (zDy w2 [.int .i64 m.req.1, .int .i64 m.req.2.1, s.o, s.g] m.req ⟨_, _, rfl, hs.o.mv (Mv.below hB2), hs.g.mv (Mv.below hB2)⟩ hz.req).mono ?_
  rintro e w3 ⟨r3, rfl, hR3, hb3⟩
  obtain ⟨vo, vg, rfl, fo, fg⟩ := hR3
  have fo := fo.mv (Mv.weak (L := w.heap.size + 2) h2)
  have fg := fg.mv (Mv.weak (L := w.heap.size + 2) h2)
  have ra3 := ra.below hb3
  have rr3 := rr.below hb3
  have hB3 := zA1 hB2 zN hb3
  have h3 := Nat.le_trans h2 hb3.size
  clear ra rr
  go_wp2_with (first
    | (refine zCd rfl _ _ _ rfl w.heap.size 8 [.int .i64 m.req.1, .int .i64 m.req.2.1, vo, vg] rfl rfl _ _ ra3 (show 12 ≤ 23 by decide) (by kernel_rfl) (zBq (G := zB0 (w.heap.size + 2)) (w := w3) (x := m.req) ⟨_, _, rfl, fo, fg⟩) ?_; intro w4 hr4 hg4; have ra4 : Row w4 w.heap.size 40 (mc m { s with o := vo, g := vg }) := hr4.out)
    | (refine zC4 rfl _ _ rfl w.heap.size 12 rfl _ _ ra4 [.int .i64 m.oth.1, .int .i64 m.oth.2.1, s.o', s.g'] rfl _ Tryz.underlying34 rfl (by kernel_rfl) ?_))
  have rr4 := rr3.grown hg4 (fun e => by injection e with e; omega)
  have hB4 : Below w.heap.size w w4 := hB3.trans (zA5 hg4 hB3.size (fun k hk => by cases hk; exact zN))
  have h4 := Nat.le_trans h3 hg4.size
  have fo := fo.mv (Mv.from (L := w.heap.size + 2) hg4 (by omega) zN)
  have fg := fg.mv (Mv.from (L := w.heap.size + 2) hg4 (by omega) zN)
  refine (zDy w4 [.int .i64 m.oth.1, .int .i64 m.oth.2.1, s.o', s.g'] m.oth ⟨_, _, rfl, hs.o'.mv (Mv.below hB4), hs.g'.mv (Mv.below hB4)⟩ hz.oth).mono ?_
  rintro e w5 ⟨r5, rfl, hR5, hb5⟩
  obtain ⟨vo5, vg5, rfl, fo5, fg5⟩ := hR5
  have fo := fo.mv (Mv.belowG hb5)
  have fg := fg.mv (Mv.belowG hb5)
  have fo5 := fo5.mv (Mv.weak (L := w.heap.size + 2) h4)
  have fg5 := fg5.mv (Mv.weak (L := w.heap.size + 2) h4)
  have ra5 := ra4.below hb5
  have rr5 := rr4.below hb5
  have hB5 := zA1 hB4 zN hb5
  have h5 := Nat.le_trans h4 hb5.size
  clear ra4 rr4 ra3 rr3 hr4 hg4
  go_wp2_with (first
    | (refine zCd rfl _ _ _ rfl w.heap.size 12 [.int .i64 m.oth.1, .int .i64 m.oth.2.1, vo5, vg5] rfl rfl _ _ ra5 (show 16 ≤ 23 by decide) (by kernel_rfl) (zBq (G := zB0 (w.heap.size + 2)) (w := w5) (x := m.oth) ⟨_, _, rfl, fo5, fg5⟩) ?_; intro w6 hr6 hg6; have ra6 : Row w6 w.heap.size 40 (mc m { s with o := vo, g := vg, o' := vo5, g' := vg5 }) := hr6.out; have c6 := (zA4 ra6 (.cells #[] 5)).cell (j := 16) rfl; have hB6 : Below w.heap.size w w6 := hB5.trans (zA5 hg6 hB5.size (fun k hk => by cases hk; exact zN)); have hd6 := (hs.d.mv (Mv.below hB6)).1)
    | (at_builtin; refine zCi rfl _ _ rfl rfl _ m.data rfl hd6 (Nat.le_trans hz.data (by decide)) ?_; intro v7 w7 hown7 hfr7 hb7; have ra7 := ra6.below hb7)
    | (refine zAb rfl _ _ _ rfl w.heap.size 16 _ rfl rfl _ _ ra7 (show 16 < 23 by decide) (by kernel_rfl) (zDv hown7) ?_; intro w8 hr8 hg8; have ra8 : Row w8 w.heap.size 40 (mc m { s with o := vo, g := vg, o' := vo5, g' := vg5, d := v7 }) := hr8.out; have c8 := (zA4 ra8 (.cells #[] 5)).cell (j := 17) rfl; have hB7 := zA1 hB6 zN hb7; have hB8 : Below w.heap.size w w8 := hB7.trans (zA5 hg8 hB7.size (fun k hk => by cases hk; exact zN)); have hd8 := (hs.s.mv (Mv.below hB8)).1)
    | (at_builtin; refine zCi rfl _ _ rfl rfl _ m.sig rfl hd8 (Nat.le_trans hz.sig (by decide)) ?_; intro v9 w9 hown9 hfr9 hb9; have ra9 := ra8.below hb9)
    | (refine zAb rfl _ _ _ rfl w.heap.size 17 _ rfl rfl _ _ ra9 (show 17 < 23 by decide) (by kernel_rfl) (zDv hown9) ?_; intro w10 hr10 hg10; have ra10 : Row w10 w.heap.size 40 (mc m { s with o := vo, g := vg, o' := vo5, g' := vg5, d := v7, s := v9 }) := hr10.out; have c10 := ra10.cell (j := 18) rfl))
  have h6 := Nat.le_trans h5 hg6.size
  have h7 := Nat.le_trans h6 hb7.size
  have h8 := Nat.le_trans h7 hg8.size
  have h9 := Nat.le_trans h8 hb9.size
  have h10 := Nat.le_trans h9 hg10.size
  have fo := fo.mv (Mv.from (L := w.heap.size + 2) hg6 (by omega) zN)
  have fg := fg.mv (Mv.from (L := w.heap.size + 2) hg6 (by omega) zN)
  have fo5 := fo5.mv (Mv.from (L := w.heap.size + 2) hg6 (by omega) zN)
  have fg5 := fg5.mv (Mv.from (L := w.heap.size + 2) hg6 (by omega) zN)
  have fo := fo.mv (Mv.belowG hb7)
  have fg := fg.mv (Mv.belowG hb7)
  have fo5 := fo5.mv (Mv.belowG hb7)
  have fg5 := fg5.mv (Mv.belowG hb7)
  have fd : RT (zB0 w6.heap.size) w7 v7 m.data := RT.own hown7 hd6.1 hfr7
  have fd := fd.mv (Mv.weak (L := w.heap.size + 2) h6)
  have fo := fo.mv (Mv.from (L := w.heap.size + 2) hg8 (by omega) zN)
  have fg := fg.mv (Mv.from (L := w.heap.size + 2) hg8 (by omega) zN)
  have fo5 := fo5.mv (Mv.from (L := w.heap.size + 2) hg8 (by omega) zN)
  have fg5 := fg5.mv (Mv.from (L := w.heap.size + 2) hg8 (by omega) zN)
  have fd := fd.mv (Mv.from (L := w.heap.size + 2) hg8 (by omega) zN)
  have fo := fo.mv (Mv.belowG hb9)
  have fg := fg.mv (Mv.belowG hb9)
  have fo5 := fo5.mv (Mv.belowG hb9)
  have fg5 := fg5.mv (Mv.belowG hb9)
  have fd := fd.mv (Mv.belowG hb9)
  have fs : RT (zB0 w8.heap.size) w9 v9 m.sig := RT.own hown9 hd8.1 hfr9
  have fs := fs.mv (Mv.weak (L := w.heap.size + 2) h8)
  have fo := fo.mv (Mv.from (L := w.heap.size + 2) hg10 (by omega) zN)
  have fg := fg.mv (Mv.from (L := w.heap.size + 2) hg10 (by omega) zN)
  have fo5 := fo5.mv (Mv.from (L := w.heap.size + 2) hg10 (by omega) zN)
  have fg5 := fg5.mv (Mv.from (L := w.heap.size + 2) hg10 (by omega) zN)
  have fd := fd.mv (Mv.from (L := w.heap.size + 2) hg10 (by omega) zN)
  have fs := fs.mv (Mv.from (L := w.heap.size + 2) hg10 (by omega) zN)
  have rr10 := ((((rr5.grown hg6 (fun e => by injection e with e; omega)).below hb7).grown hg8 (fun e => by injection e with e; omega)).below hb9).grown hg10 (fun e => by injection e with e; omega)
  have hB9 := zA1 hB8 zN hb9
  have hB10 : Below w.heap.size w w10 := hB9.trans (zA5 hg10 hB9.size (fun k hk => by cases hk; exact zN))
  clear rr5 ra5 ra6 ra7 ra8 ra9 hr6 hr8 hr10 hg6 hg8 hg10 hown7 hown9 hfr7 hfr9 hb7 hb9 c6 c8 hd6 hd8 hB5 hB6 hB7 hB8 hB9
  refine (zCv w10 s.c _ (hs.c.mv zA9 hB10.size (Mv.below hB10)) hz.cert).mono ?_
  rintro e w11 ⟨v11, rfl, fc, hb11⟩
  have fc := fc.mv zA9 zN (Mv.weak (L := w.heap.size + 2) h10)
  have fo := fo.mv (Mv.belowG hb11)
  have fg := fg.mv (Mv.belowG hb11)
  have fo5 := fo5.mv (Mv.belowG hb11)
  have fg5 := fg5.mv (Mv.belowG hb11)
  have fd := fd.mv (Mv.belowG hb11)
  have fs := fs.mv (Mv.belowG hb11)
  have ra11 := ra10.below hb11
  have rr11 := rr10.below hb11
  have hB11 := zA1 hB10 zN hb11
  have h11 := Nat.le_trans h10 hb11.size
  have oc := fc.one
  clear ra10 rr10 c10
  go_wp2_with (refine zAb rfl _ _ _ rfl w.heap.size 18 _ rfl rfl _ _ ra11 (show 18 < 23 by decide) (by kernel_rfl) oc ?_; intro w12 hr12 hg12; have ra12 : Row w12 w.heap.size 40 (mc m { s with o := vo, g := vg, o' := vo5, g' := vg5, d := v7, s := v9, c := v11 }) := hr12.out; have c12 := ra12.cell (j := 19) rfl)
  have rr12 := rr11.grown hg12 (fun e => by injection e with e; omega)
  have hB12 : Below w.heap.size w w12 := hB11.trans (zA5 hg12 hB11.size (fun k hk => by cases hk; exact zN))
  have h12 := Nat.le_trans h11 hg12.size
  have fo := fo.mv (Mv.from (L := w.heap.size + 2) hg12 (by omega) zN)
  have fg := fg.mv (Mv.from (L := w.heap.size + 2) hg12 (by omega) zN)
  have fo5 := fo5.mv (Mv.from (L := w.heap.size + 2) hg12 (by omega) zN)
  have fg5 := fg5.mv (Mv.from (L := w.heap.size + 2) hg12 (by omega) zN)
  have fd := fd.mv (Mv.from (L := w.heap.size + 2) hg12 (by omega) zN)
  have fs := fs.mv (Mv.from (L := w.heap.size + 2) hg12 (by omega) zN)
  have fc := fc.mv zA9 hg12.size (Mv.from (L := w.heap.size + 2) hg12 (by omega) zN)
  refine (zCv w12 s.v _ (hs.v.mv zA9 hB12.size (Mv.below hB12)) hz.votes).mono ?_
  rintro e w13 ⟨v13, rfl, fv, hb13⟩
  have fv := fv.mv zA9 zN (Mv.weak (L := w.heap.size + 2) h12)
  have fo := fo.mv (Mv.belowG hb13)
  have fg := fg.mv (Mv.belowG hb13)
  have fo5 := fo5.mv (Mv.belowG hb13)
  have fg5 := fg5.mv (Mv.belowG hb13)
  have fd := fd.mv (Mv.belowG hb13)
  have fs := fs.mv (Mv.belowG hb13)
  have fc := fc.mv zA9 hb13.size (Mv.belowG hb13)
  have ra13 := ra12.below hb13
  have rr13 := rr12.below hb13
  have hB13 := zA1 hB12 zN hb13
  have h13 := Nat.le_trans h12 hb13.size
  have ov := fv.one
  obtain ⟨xp, cp, hvp, _⟩ := hs.p.form
  clear ra11 rr11 ra12 rr12 hr12 hg12 c12 hB11 hB12
  go_wp2_with (first
    | (refine zAb rfl _ _ _ rfl w.heap.size 19 _ rfl rfl _ _ ra13 (show 19 < 23 by decide) (by kernel_rfl) ov ?_; intro w14 hr14 hg14; have ra14 : Row w14 w.heap.size 40 (mc m { s with o := vo, g := vg, o' := vo5, g' := vg5, d := v7, s := v9, c := v11, v := v13 }) := hr14.out; have c14 := (zA4 ra14 (.cells #[] 3)).cell (j := 20) rfl; have hB14 : Below w.heap.size w w14 := hB13.trans (zA5 hg14 hB13.size (fun k hk => by cases hk; exact zN)); have hn14 := hs.n.mv zAl hB14.size (Mv.below hB14))
    | (at_builtin; refine zL2 rfl _ _ rfl rfl _ m.order rfl hn14 hz.order.1 ?_; intro v15 w15 hown15 hfr15 hb15; have ra15 := ra14.below hb15)
    | (refine zAb rfl _ _ _ rfl w.heap.size 20 _ rfl rfl _ _ ra15 (show 20 < 23 by decide) (by kernel_rfl) (zDv hown15) ?_; intro w16 hr16 hg16; have ra16 : Row w16 w.heap.size 40 (mc m { s with o := vo, g := vg, o' := vo5, g' := vg5, d := v7, s := v9, c := v11, v := v13, n := v15 }) := hr16.out; have c16 : (w16.alloc (.cells #[] 34)).cell? ⟨w.heap.size, 21, none⟩ = some (.slice xp m.picks.length cp) := by rw [← hvp]; exact (zA4 ra16 (.cells #[] 34)).cell (j := 21) rfl))
  have h14 := Nat.le_trans h13 hg14.size
  have h15 := Nat.le_trans h14 hb15.size
  have h16 := Nat.le_trans h15 hg16.size
  have fo := fo.mv (Mv.from (L := w.heap.size + 2) hg14 (by omega) zN)
  have fg := fg.mv (Mv.from (L := w.heap.size + 2) hg14 (by omega) zN)
  have fo5 := fo5.mv (Mv.from (L := w.heap.size + 2) hg14 (by omega) zN)
  have fg5 := fg5.mv (Mv.from (L := w.heap.size + 2) hg14 (by omega) zN)
  have fd := fd.mv (Mv.from (L := w.heap.size + 2) hg14 (by omega) zN)
  have fs := fs.mv (Mv.from (L := w.heap.size + 2) hg14 (by omega) zN)
  have fc := fc.mv zA9 hg14.size (Mv.from (L := w.heap.size + 2) hg14 (by omega) zN)
  have fv := fv.mv zA9 hg14.size (Mv.from (L := w.heap.size + 2) hg14 (by omega) zN)
  have fo := fo.mv (Mv.belowG hb15)
  have fg := fg.mv (Mv.belowG hb15)
  have fo5 := fo5.mv (Mv.belowG hb15)
  have fg5 := fg5.mv (Mv.belowG hb15)
  have fd := fd.mv (Mv.belowG hb15)
  have fs := fs.mv (Mv.belowG hb15)
  have fc := fc.mv zA9 hb15.size (Mv.belowG hb15)
  have fv := fv.mv zA9 hb15.size (Mv.belowG hb15)
  have fn : RL zG2 1 (zB0 w14.heap.size) w15 v15 m.order := ints_rl hown15 hfr15
  have fn := fn.mv zAl zN (Mv.weak (L := w.heap.size + 2) h14)
  have fo := fo.mv (Mv.from (L := w.heap.size + 2) hg16 (by omega) zN)
  have fg := fg.mv (Mv.from (L := w.heap.size + 2) hg16 (by omega) zN)
  have fo5 := fo5.mv (Mv.from (L := w.heap.size + 2) hg16 (by omega) zN)
  have fg5 := fg5.mv (Mv.from (L := w.heap.size + 2) hg16 (by omega) zN)
  have fd := fd.mv (Mv.from (L := w.heap.size + 2) hg16 (by omega) zN)
  have fs := fs.mv (Mv.from (L := w.heap.size + 2) hg16 (by omega) zN)
  have fc := fc.mv zA9 hg16.size (Mv.from (L := w.heap.size + 2) hg16 (by omega) zN)
  have fv := fv.mv zA9 hg16.size (Mv.from (L := w.heap.size + 2) hg16 (by omega) zN)
  have fn := fn.mv zAl hg16.size (Mv.from (L := w.heap.size + 2) hg16 (by omega) zN)
  have rr16 := ((rr13.grown hg14 (fun e => by injection e with e; omega)).below hb15).grown hg16 (fun e => by injection e with e; omega)
  have hB15 := zA1 hB14 zN hb15
  have hB16 : Below w.heap.size w w16 := hB15.trans (zA5 hg16 hB15.size (fun k hk => by cases hk; exact zN))
  have hlmp : (m.picks.length : Int) ≤ 9223372036854775807 := zUl hs.p
  have hlml : (m.reps.length : Int) ≤ 9223372036854775807 := zUl hs.l
  have HVP := (show Hid _ from hvp)
  clear rr13 ra13 ra14 ra15 hr14 hr16 hg14 hg16 hown15 hfr15 hb15 c14 c16 hn14 hB13 hB14 hB15 hvp oc ov h3 h4 h5 h6 h7 h8 h9 h10 h11 h12 h13 h14 h15 hB2 hB3 hB4 hB10
  go_loopw [3, 44] (fun v i wr => ∃ q : Nat, q ≤ m.picks.length ∧ i = .int .i64 q ∧ LB zCs 34 4 w16.heap.size wr v (m.picks.take q) ∧ Below w16.heap.size w16 wr) (fun _ i _ => m.picks.length - (intOf i).toNat)
  case atStart => exact ⟨0, by omega, rfl, LB.fresh _ _ _ _ _ zN, zA0 w16 _⟩
  case round =>
    obtain ⟨q, hq, rfl, hLB, hbr⟩ := hrel
    have hBr := zA1 hB16 zN hbr
    by_cases hql : q < m.picks.length
    · obtain ⟨a, ha⟩ : ∃ a, m.picks[q]? = some a := ⟨_, List.getElem?_eq_getElem hql⟩
      obtain ⟨bb, off, cap, hw1, _, _, _, hbb, hx1⟩ := hs.p.at (by omega)
      rw [HVP.out] at hw1
      injection hw1 with e1 e2 e3
      clear e2
      subst e1 e3
      obtain ⟨r1, hrl1, y1, hr1⟩ := hx1 q a ha
      have hza := hz.picks.2 a (List.mem_of_getElem? ha)
      have hrng := zAw y1 (hBr.block bb hbb)
      have HA := (show Hid (m.picks.take (q + 1) = m.picks.take q ++ [a]) from zBa _ q a ha)
      have HTL := (show Hid ((m.picks.take q).length = q) from zHd (by omega))
      have k1 := zBq hr1
      have HR := (show Hid (zCs Any w r1 a) from hr1)
      obtain ⟨vo1, vg1, rfl, _, _⟩ := hr1
      have hrow0 := Row.new wr 34 [.int .i64 0, .int .i64 0, .slice none 0 0, .slice none 0 0]
      clear ha hx1 y1 hrl1
      go_wp2_with (first
        | (refine wpList_load_mid rfl _ _ rfl bb (off + q * 4) rfl [.int .i64 a.1, .int .i64 a.2.1, vo1, vg1] _ hrng Tryz.underlying34 rfl (by kernel_rfl) ?_)
        | (refine zA7 rfl _ _ _ rfl wr.heap.size [.int .i64 a.1, .int .i64 a.2.1, vo1, vg1] rfl rfl _ _ hrow0 rfl (by kernel_rfl) k1 ?_; intro w21 hr21 hg21)
        | (refine zAa rfl _ _ rfl wr.heap.size rfl _ _ hr21.out _ Tryz.underlying34 rfl (by kernel_rfl) ?_))
      have hb21 : Below wr.heap.size wr w21 := (zA0 wr (.cells ([.int .i64 0, .int .i64 0, .slice none 0 0, .slice none 0 0] : List Value).toArray 34)).trans (zA5 hg21 (by simp) (fun k hk => by cases hk; exact zN))
      have hB21 := zA1 hBr zN hb21
      refine (zDy w21 [.int .i64 a.1, .int .i64 a.2.1, vo1, vg1] a (zAj _ _ _ _ _ _ HR.out hB21.size (Mv.below hB21)) hza).mono ?_
      rintro e w22 ⟨r22, rfl, hR22, hb22⟩
      have k22 := zBq hR22
      have l22 : r22.length = 4 := zKu hR22
      have hR22' := hR22
      obtain ⟨q1, q2, rfl, _, _⟩ := hR22'
      have hb1 := zA1 (zA1 hbr zN hb21) zN hb22
      have hLB22 := (hLB.below zAj hb21).below zAj hb22
      have hlt21 := (hLB.below zAj hb21).lt
      have hws : w16.heap.size ≤ w21.heap.size := Nat.le_trans hbr.size hb21.size
      clear hrng hrow0 hr21 hg21
      go_wp2_with (at_builtin; refine zCq zAj rfl _ _ _ rfl 34 4 64 _ Tryz.underlying37 Tryz.inf_reqs rfl (by decide) w16.heap.size u3 (m.picks.take q) rfl hLB22 [.int .i64 a.1, .int .i64 a.2.1, q1, q2] a w21.heap.size hR22 l22 k22 hws hlt21 rfl (Nat.le_trans hws hb22.size) (by rw [HTL.out]; have := hz.picks.1; omega) (by decide) ?_; intro v23 w23 hLB23 hg23)
      rw [← HA.out] at hLB23
      have hb23 := hb1.trans (zA5 hg23 hb1.size (fun k hk => hLB.fr k hk))
      go_roundw
      case rel => exact ⟨q + 1, by omega, by go_num, hLB23, hb23⟩
      case measure => simp [intOf]; omega
    · obtain rfl : q = m.picks.length := by omega
      rw [List.take_length] at hLB
      have fp := hLB.rl zAj
      have fp := fp.mv zAj zN (Mv.weak (L := w.heap.size + 2) h16)
      have op := hLB.form
      have ra17 := ra16.below hbr
      have rr17 := rr16.below hbr
      have h17 := Nat.le_trans h16 hbr.size
      have fo := fo.mv (Mv.belowG hbr)
      have fg := fg.mv (Mv.belowG hbr)
      have fo5 := fo5.mv (Mv.belowG hbr)
      have fg5 := fg5.mv (Mv.belowG hbr)
      have fd := fd.mv (Mv.belowG hbr)
      have fs := fs.mv (Mv.belowG hbr)
      have fc := fc.mv zA9 hbr.size (Mv.belowG hbr)
      have fv := fv.mv zA9 hbr.size (Mv.belowG hbr)
      have fn := fn.mv zAl hbr.size (Mv.belowG hbr)
      obtain ⟨xl, cl, hvl, _⟩ := hs.l.form
      clear ra16 rr16 hLB hql hq
      go_wp2_with (refine zAb rfl _ _ _ rfl w.heap.size 21 _ rfl rfl _ _ ra17 (show 21 < 23 by decide) (by kernel_rfl) op ?_; intro w18 hr18 hg18; have ra18 : Row w18 w.heap.size 40 (mc m { s with o := vo, g := vg, o' := vo5, g' := vg5, d := v7, s := v9, c := v11, v := v13, n := v15, p := u3 }) := hr18.out; have c18 : (w18.alloc (.cells #[] 68)).cell? ⟨w.heap.size, 22, none⟩ = some (.slice xl m.reps.length cl) := by rw [← hvl]; exact (zA4 ra18 (.cells #[] 68)).cell (j := 22) rfl)
      have rr18 := rr17.grown hg18 (fun e => by injection e with e; omega)
      have hB18 : Below w.heap.size w w18 := hBr.trans (zA5 hg18 hBr.size (fun k hk => by cases hk; exact zN))
      have h18 := Nat.le_trans h17 hg18.size
      have fo := fo.mv (Mv.from (L := w.heap.size + 2) hg18 (by omega) zN)
      have fg := fg.mv (Mv.from (L := w.heap.size + 2) hg18 (by omega) zN)
      have fo5 := fo5.mv (Mv.from (L := w.heap.size + 2) hg18 (by omega) zN)
      have fg5 := fg5.mv (Mv.from (L := w.heap.size + 2) hg18 (by omega) zN)
      have fd := fd.mv (Mv.from (L := w.heap.size + 2) hg18 (by omega) zN)
      have fs := fs.mv (Mv.from (L := w.heap.size + 2) hg18 (by omega) zN)
      have fc := fc.mv zA9 hg18.size (Mv.from (L := w.heap.size + 2) hg18 (by omega) zN)
      have fv := fv.mv zA9 hg18.size (Mv.from (L := w.heap.size + 2) hg18 (by omega) zN)
      have fn := fn.mv zAl hg18.size (Mv.from (L := w.heap.size + 2) hg18 (by omega) zN)
      have fp := fp.mv zAj hg18.size (Mv.from (L := w.heap.size + 2) hg18 (by omega) zN)
      have HVL := (show Hid _ from hvl)
      clear ra17 rr17 hr18 hg18 c18 hvl hBr hbr h16 h17 hB16 op
      go_loopw [6, 60] (fun v i wr => ∃ q : Nat, q ≤ m.reps.length ∧ i = .int .i64 q ∧ LB zDo 68 8 w18.heap.size wr v (m.reps.take q) ∧ Below w18.heap.size w18 wr) (fun _ i _ => m.reps.length - (intOf i).toNat)
      case atStart => exact ⟨0, by omega, rfl, LB.fresh _ _ _ _ _ zN, zA0 w18 _⟩
      case round =>
        obtain ⟨q, hq, rfl, hLB, hbr⟩ := hrel
        have hBr := zA1 hB18 zN hbr
        by_cases hql : q < m.reps.length
        · obtain ⟨a, ha⟩ : ∃ a, m.reps[q]? = some a := ⟨_, List.getElem?_eq_getElem hql⟩
          obtain ⟨bb, off, cap, hw1, _, _, _, hbb, hx1⟩ := hs.l.at (by omega)
          rw [HVL.out] at hw1
          injection hw1 with e1 e2 e3
          clear e2
          subst e1 e3
          obtain ⟨r1, hrl1, y1, hr1⟩ := hx1 q a ha
          have hza := hz.reps.2 a (List.mem_of_getElem? ha)
          have hrng := zAw y1 (hBr.block bb hbb)
          have HA := (show Hid (m.reps.take (q + 1) = m.reps.take q ++ [a]) from zBa _ q a ha)
          have HTL := (show Hid ((m.reps.take q).length = q) from zHd (by omega))
          have k1 := zCk hr1
          have HR := (show Hid (zDo Any w r1 a) from hr1)
          obtain ⟨vd1, vs1, vp1, vg1, rfl, _, _, _, _⟩ := hr1
          have hrow0 := Row.new wr 68 [.int .i64 0, .int .i64 0, .int .i64 0, .int .i64 0, .slice none 0 0, .slice none 0 0, .slice none 0 0, .slice none 0 0]
          clear ha hx1 y1 hrl1
          go_wp2_with (first
            | (refine wpList_load_mid rfl _ _ rfl bb (off + q * 8) rfl [.int .i64 a.1.1, .int .i64 a.1.2, .int .i64 a.2.1, .int .i64 a.2.2.1, vd1, vs1, vp1, vg1] _ hrng Tryz.underlying68 rfl (by kernel_rfl) ?_)
            | (refine zA7 rfl _ _ _ rfl wr.heap.size [.int .i64 a.1.1, .int .i64 a.1.2, .int .i64 a.2.1, .int .i64 a.2.2.1, vd1, vs1, vp1, vg1] rfl rfl _ _ hrow0 rfl (by kernel_rfl) k1 ?_; intro w21 hr21 hg21)
            | (refine zAa rfl _ _ rfl wr.heap.size rfl _ _ hr21.out _ Tryz.underlying68 rfl (by kernel_rfl) ?_))
          have hb21 : Below wr.heap.size wr w21 := (zA0 wr (.cells ([.int .i64 0, .int .i64 0, .int .i64 0, .int .i64 0, .slice none 0 0, .slice none 0 0, .slice none 0 0, .slice none 0 0] : List Value).toArray 68)).trans (zA5 hg21 (by simp) (fun k hk => by cases hk; exact zN))
          have hB21 := zA1 hBr zN hb21
          refine (zJc w21 [.int .i64 a.1.1, .int .i64 a.1.2, .int .i64 a.2.1, .int .i64 a.2.2.1, vd1, vs1, vp1, vg1] a (zAm _ _ _ _ _ _ HR.out hB21.size (Mv.below hB21)) hza).mono ?_
          rintro e w22 ⟨r22, rfl, hR22, hb22⟩
          have k22 := zCk hR22
          have l22 : r22.length = 8 := zKz hR22
          have hR22' := hR22
          obtain ⟨q1, q2, q3, q4, rfl, _, _, _, _⟩ := hR22'
          have hb1 := zA1 (zA1 hbr zN hb21) zN hb22
          have hLB22 := (hLB.below zAm hb21).below zAm hb22
          have hlt21 := (hLB.below zAm hb21).lt
          have hws : w18.heap.size ≤ w21.heap.size := Nat.le_trans hbr.size hb21.size
          clear hrng hrow0 hr21 hg21
          go_wp2_with (at_builtin; refine zCq zAm rfl _ _ _ rfl 68 8 128 _ Tryz.underlying38 Tryz.inf_reps rfl (by decide) w18.heap.size u6 (m.reps.take q) rfl hLB22 [.int .i64 a.1.1, .int .i64 a.1.2, .int .i64 a.2.1, .int .i64 a.2.2.1, q1, q2, q3, q4] a w21.heap.size hR22 l22 k22 hws hlt21 rfl (Nat.le_trans hws hb22.size) (by rw [HTL.out]; have := hz.reps.1; omega) (by decide) ?_; intro v23 w23 hLB23 hg23)
          rw [← HA.out] at hLB23
          have hb23 := hb1.trans (zA5 hg23 hb1.size (fun k hk => hLB.fr k hk))
          go_roundw
          case rel => exact ⟨q + 1, by omega, by go_num, hLB23, hb23⟩
          case measure => simp [intOf]; omega
        · obtain rfl : q = m.reps.length := by omega
          rw [List.take_length] at hLB
          have fl' := hLB.rl zAm
          have fl' := fl'.mv zAm zN (Mv.weak (L := w.heap.size + 2) h18)
          have ol := hLB.form
          have ra19 := ra18.below hbr
          have rr19 := rr18.below hbr
          have h19 := Nat.le_trans h18 hbr.size
          have fo := fo.mv (Mv.belowG hbr)
          have fg := fg.mv (Mv.belowG hbr)
          have fo5 := fo5.mv (Mv.belowG hbr)
          have fg5 := fg5.mv (Mv.belowG hbr)
          have fd := fd.mv (Mv.belowG hbr)
          have fs := fs.mv (Mv.belowG hbr)
          have fc := fc.mv zA9 hbr.size (Mv.belowG hbr)
          have fv := fv.mv zA9 hbr.size (Mv.belowG hbr)
          have fn := fn.mv zAl hbr.size (Mv.belowG hbr)
          have fp := fp.mv zAj hbr.size (Mv.belowG hbr)
          have hso : SOk (zB0 (w.heap.size + 2)) wr m { s with o := vo, g := vg, o' := vo5, g' := vg5, d := v7, s := v9, c := v11, v := v13, n := v15, p := u3, l := u6 } := ⟨fo, fg, fo5, fg5, fd, fs, fc, fv, fn, fp, fl'⟩
          have hone := hso.one
          go_wp2_with (first
            | (refine zAb rfl _ _ _ rfl w.heap.size 22 _ rfl rfl _ _ ra19 (show 22 < 23 by decide) (by kernel_rfl) ol ?_; intro wx hrx hgx; have rax : Row wx w.heap.size 40 (mc m { s with o := vo, g := vg, o' := vo5, g' := vg5, d := v7, s := v9, c := v11, v := v13, n := v15, p := u3, l := u6 }) := hrx.out; have rrx := rr19.grown hgx (fun e => by injection e with e; omega))
            | (refine zAa rfl _ _ rfl w.heap.size rfl _ _ rax _ Tryz.underlying40 rfl (by kernel_rfl) ?_)
            | (refine zA7 rfl _ _ _ rfl (w.heap.size + 1) (mc m { s with o := vo, g := vg, o' := vo5, g' := vg5, d := v7, s := v9, c := v11, v := v13, n := v15, p := u3, l := u6 }) rfl rfl _ _ rrx rfl (by kernel_rfl) hone ?_; intro wy hry hgy))
          have hry := hry.out
          have hsx := hso.mv hgx.size (Mv.from (L := w.heap.size + 2) hgx (by omega) zN)
          have hsy := hsx.mv hgy.size (Mv.from (L := w.heap.size) hgy (by omega) (by omega))
          have hBx := hBr.trans (zA5 hgx hBr.size (fun k hk => by cases hk; exact zN))
          have hBy := hBx.trans (zA5 hgy hBx.size (fun k hk => by cases hk; omega))
          refine bodyPost_ret (v := .agg (mc m { s with o := vo, g := vg, o' := vo5, g' := vg5, d := v7, s := v9, c := v11, v := v13, n := v15, p := u3, l := u6 }).toArray) (results_cell_row rfl _ _ (w.heap.size + 1) _ _ (0, 0) _ (by rfl) hry Tryz.underlying40 rfl (by kernel_rfl)) rfl ?_
          exact ⟨_, rfl, hsy, hBy⟩
end
end Go.Proofs.YtgjepofinpmcpaaGreatDoor
