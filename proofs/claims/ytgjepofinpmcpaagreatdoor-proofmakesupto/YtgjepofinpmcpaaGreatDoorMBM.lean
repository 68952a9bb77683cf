/- Ledgers in memory: meet, where something was seen. Written by mk16.py. -/
import Derived.Test.YtgjepofinpmcpaaGreatDoorMBJ
set_option linter.unusedSimpArgs false
set_option linter.unusedVariables false
namespace Go.Proofs.YtgjepofinpmcpaaGreatDoor
open Go.RowKit Oct Kvl
set_option maxRecDepth 10000 in
set_option maxHeartbeats 4000000 in
theorem zRm {G : Nat → Prop} (w : World) (b m : Nat) (ls : List PSn) (h : Lg G w b m ls) (hG : ∀ k, G k → k ≠ m) (k x y sl i : Int) (j : Nat) (zr : zB3) (zs : List Int) (zt : Bool) (hq : fnd (k, x, y, sl, i) (zDi ls) = some j) (hz : ls[j]? = some ⟨(k, x, y, sl, i), zr, zs, zt⟩) (v : Value) (r : zB3) (g : List Int) (hv : RCh G w v r g false) (hr : tot [r.2.2.1, r.2.2.2] ≤ 2000000) (hg : szT g) :
    Calls Tryz.prog 63 #[.pointer (some ⟨b, 0, none⟩), kv (k, x, y, sl, i), v] w fun e w' => MtP G w b m ls (k, x, y, sl, i) r g e w' := by
  have hzo := h.ok.ok _ (List.mem_of_getElem? hz)
  have h := h.mv (G' := fun j => G j ∧ j < w.heap.size) rfl rfl (fun j hj hlt => ⟨rfl, hj, hlt⟩)
  have hv := hv.mv (G' := fun j => G j ∧ j < w.heap.size) (fun j hj hlt => ⟨rfl, hj, hlt⟩)
  have hG' : ∀ j, (G j ∧ j < w.heap.size) → j ≠ m := fun j hj => hG j hj.1
  obtain ⟨o, p, s, rfl, t1, t2, t3⟩ := hv
  obtain ⟨ao, co, rfl, _⟩ := t1.form
  obtain ⟨ap, cp, rfl, _⟩ := t2.form
  obtain ⟨as0, cs0, rfl, _⟩ := t3.form
  obtain ⟨w1, hw1⟩ : ∃ w1, w1 = w.alloc (.cells #[.int .i64 k, .int .i64 x, .int .i64 y, .int .i64 sl, .int .i64 i] 116) := ⟨_, rfl⟩
  obtain ⟨w2, hw2⟩ : ∃ w2, w2 = w1.alloc (.cells #[.int .i64 r.1, .int .i64 r.2.1, .slice ao r.2.2.1.length co, .slice ap r.2.2.2.length cp, .slice as0 g.length cs0, .bool false] 120) := ⟨_, rfl⟩
  obtain ⟨w3, hw3⟩ : ∃ w3, w3 = w2.alloc (.cells #[.int .i64 0, .int .i64 0, .int .i64 0, .int .i64 0, .int .i64 0, .int .i64 0, .int .i64 0, .int .i64 0, .int .i64 0, .int .i64 0, .slice none 0 0, .slice none 0 0, .int .i64 0, .int .i64 0, .slice none 0 0, .slice none 0 0, .slice none 0 0, .slice none 0 0, .slice none 0 0, .slice none 0 0, .slice none 0 0, .slice none 0 0, .slice none 0 0] 40) := ⟨_, rfl⟩
  have e1 : w1.heap.size = w.heap.size + 1 := by rw [hw1]; simp
  have e2 : w2.heap.size = w.heap.size + 2 := by rw [hw2]; simp [e1]
  have e3 : w3.heap.size = w.heap.size + 3 := by rw [hw3]; simp [e2]
  have B1 : Below w.heap.size w w1 := by rw [hw1]; exact zA0 _ _
  have B2 : Below w1.heap.size w1 w2 := by rw [hw2]; exact zA0 _ _
  have B3 : Below w2.heap.size w2 w3 := by rw [hw3]; exact zA0 _ _
  have R1 : Row w1 w.heap.size 116 [.int .i64 k, .int .i64 x, .int .i64 y, .int .i64 sl, .int .i64 i] := by rw [hw1]; exact Row.new _ _ _
  have R2 : Row w2 (w.heap.size + 1) 120 [.int .i64 r.1, .int .i64 r.2.1, .slice ao r.2.2.1.length co, .slice ap r.2.2.2.length cp, .slice as0 g.length cs0, .bool false] := by rw [hw2, ← e1]; exact Row.new _ _ _
  have R3 : Row w3 (w.heap.size + 2) 40 [.int .i64 0, .int .i64 0, .int .i64 0, .int .i64 0, .int .i64 0, .int .i64 0, .int .i64 0, .int .i64 0, .int .i64 0, .int .i64 0, .slice none 0 0, .slice none 0 0, .int .i64 0, .int .i64 0, .slice none 0 0, .slice none 0 0, .slice none 0 0, .slice none 0 0, .slice none 0 0, .slice none 0 0, .slice none 0 0, .slice none 0 0, .slice none 0 0] := by rw [hw3, ← e2]; exact Row.new _ _ _
  have R1 := (R1.below B2).below B3
  have R2 := R2.below B3
  have B : Below w.heap.size w w3 := zA1 (zA1 B1 zN B2) zN B3
  have hw : w3 = ((w.alloc (.cells #[.int .i64 k, .int .i64 x, .int .i64 y, .int .i64 sl, .int .i64 i] 116)).alloc (.cells #[.int .i64 r.1, .int .i64 r.2.1, .slice ao r.2.2.1.length co, .slice ap r.2.2.2.length cp, .slice as0 g.length cs0, .bool false] 120)).alloc (.cells #[.int .i64 0, .int .i64 0, .int .i64 0, .int .i64 0, .int .i64 0, .int .i64 0, .int .i64 0, .int .i64 0, .int .i64 0, .int .i64 0, .slice none 0 0, .slice none 0 0, .int .i64 0, .int .i64 0, .slice none 0 0, .slice none 0 0, .slice none 0 0, .slice none 0 0, .slice none 0 0, .slice none 0 0, .slice none 0 0, .slice none 0 0, .slice none 0 0] 40) := by rw [hw3, hw2, hw1]
  clear hw1 hw2 hw3 e1 e2 B1 B2 B3
  have h3 := h.below B
  have c0 := h3.row.cell (j := 0) rfl
  have hm := h.lt.2
  have hb := h.lt.1
  obtain ⟨l, hl1, hl2⟩ := h3.map
  have hq' := hq
  rw [← zIg hl2] at hq'
  obtain ⟨zz, hzz⟩ : ∃ zz, l[j]? = some zz := by
    have hlt := (zOg hq').1
    rw [List.length_map] at hlt
    exact ⟨_, List.getElem?_eq_getElem hlt⟩
  obtain ⟨hz1, o2, p2, s2, hz2, u1, u2, u3⟩ := hl2.get hzz hz
  obtain ⟨zk, zv⟩ := zz
  simp only at hz1 hz2 u1 u2 u3
  subst hz1 hz2
  obtain ⟨ao2, co2, rfl, _⟩ := u1.form
  obtain ⟨ap2, cp2, rfl, _⟩ := u2.form
  obtain ⟨as2, cs2, rfl, _⟩ := u3.form
  have hlk := Mp.look_some (w := w3.drew) hl1 hq' hzz
  have hlk2 := Mp.look_some (w := (w3.alloc (.cells #[.int .i64 0, .int .i64 0, .slice none 0 0, .slice none 0 0, .slice none 0 0, .bool false] 120)).drew) (show Mp _ _ _ from hl1.below (w' := w3.alloc _) (zA0 _ _)) hq' hzz
  simp only [kv] at hlk hlk2 ⊢
  go_enter Tryz.func63, Tryz.ntmps63
  go_upto_region 1 with fail
  rw [← hw]
  clear hw
  have a0 := R1.cell (j := 0) rfl; have a1 := R1.cell (j := 1) rfl; have a2 := R1.cell (j := 2) rfl; have a3 := R1.cell (j := 3) rfl; have a4 := R1.cell (j := 4) rfl
  have Bz := zA0 w3 (.cells #[.int .i64 0, .int .i64 0, .slice none 0 0, .slice none 0 0, .slice none 0 0, .bool false] 120)
  have cz0 := (h3.row.below Bz).cell (j := 0) rfl
  have R1z := R1.below Bz
  have Rz := Row.new w3 120 [.int .i64 0, .int .i64 0, .slice none 0 0, .slice none 0 0, .slice none 0 0, .bool false]
  have RO := Row.new w3 120 [.int .i64 zr.1, .int .i64 zr.2.1, .slice ao2 zr.2.2.1.length co2, .slice ap2 zr.2.2.2.length cp2, .slice as2 zs.length cs2, .bool zt]
  have az0 := R1z.cell (j := 0) rfl; have az1 := R1z.cell (j := 1) rfl; have az2 := R1z.cell (j := 2) rfl; have az3 := R1z.cell (j := 3) rfl; have az4 := R1z.cell (j := 4) rfl
  have z0 := Rz.cell (j := 0) rfl; have z1 := Rz.cell (j := 1) rfl; have z2 := Rz.cell (j := 2) rfl; have z3 := Rz.cell (j := 3) rfl; have z4 := Rz.cell (j := 4) rfl; have z5 := Rz.cell (j := 5) rfl
  have fz := Rz.frozen
  try go_simp
  go_cut [8, 9] from 11 (fun s8 s9 wx => s8 = .pointer (some ⟨w.heap.size + 3, 0, none⟩) ∧ s9 = .bool true ∧ Below w3.heap.size w3 wx ∧ Row wx (w.heap.size + 3) 120 [.int .i64 zr.1, .int .i64 zr.2.1, .slice ao2 zr.2.2.1.length co2, .slice ap2 zr.2.2.2.length cp2, .slice as2 zs.length cs2, .bool zt])
  case first =>
    go_region
    all_goals (
      go_wp2_with fail
      go_meet
      case rel => exact ⟨rfl, rfl, Below.drew (zA0 _ _), by rw [← e3]; exact RO⟩)
  case rest =>
  clear a0 a1 a2 a3 a4 az0 az1 az2 az3 az4 z0 z1 z2 z3 z4 z5 fz Rz RO R1z cz0 Bz hlk hlk2
  obtain ⟨rfl, rfl, Bc, Rc⟩ := hcut
  have hc := h3.below Bc
  have R1c := R1.below Bc
  have R2c := R2.below Bc
  have R3c := R3.below Bc
  have BC := zA1 B zN Bc
  obtain ⟨zo1, zo2⟩ := hzo
  have v1 := (u1.mv (Mv.belowG Bc)); have v2 := (u2.mv (Mv.belowG Bc)); have v3 := (u3.mv (Mv.belowG Bc))
  have n1 := (t1.mv (Mv.belowG BC)); have n2 := (t2.mv (Mv.belowG BC)); have n3 := (t3.mv (Mv.belowG BC))
  have HO := (show Hid (∀ u, Below wc.heap.size wc u → Calls Tryz.prog 21 #[.agg #[.int .i64 zr.1, .int .i64 zr.2.1, .slice ao2 zr.2.2.1.length co2, .slice ap2 zr.2.2.2.length cp2]] u fun e w' => ∃ v', e = .returned v' ∧ Own w' 5 v' (bc (zB6 zr)) ∧ Below u.heap.size u w' ∧ Below wc.heap.size wc w') from fun u hu => (zDs u [.int .i64 zr.1, .int .i64 zr.2.1, .slice ao2 zr.2.2.1.length co2, .slice ap2 zr.2.2.2.length cp2] zr ⟨_, _, rfl, (v1.mv Mv.any).mv (Mv.below hu), (v2.mv Mv.any).mv (Mv.below hu)⟩ (Nat.le_trans zo1 (by decide))).mono fun e w' ⟨v', e1, e2, _, e3⟩ => ⟨v', e1, e2, e3, zA1 hu zN e3⟩)
  have HN := (show Hid (∀ u, Below wc.heap.size wc u → Calls Tryz.prog 21 #[.agg #[.int .i64 r.1, .int .i64 r.2.1, .slice ao r.2.2.1.length co, .slice ap r.2.2.2.length cp]] u fun e w' => ∃ v', e = .returned v' ∧ Own w' 5 v' (bc (zB6 r)) ∧ Below u.heap.size u w' ∧ Below wc.heap.size wc w') from fun u hu => (zDs u [.int .i64 r.1, .int .i64 r.2.1, .slice ao r.2.2.1.length co, .slice ap r.2.2.2.length cp] r ⟨_, _, rfl, (n1.mv Mv.any).mv (Mv.below hu), (n2.mv Mv.any).mv (Mv.below hu)⟩ (Nat.le_trans hr (by decide))).mono fun e w' ⟨v', e1, e2, _, e3⟩ => ⟨v', e1, e2, e3, zA1 hu zN e3⟩)
  have SK := (show Hid (∀ u, Below wc.heap.size wc u → u.cell? ⟨w.heap.size + 3, 0, none⟩ = some (.int .i64 zr.1) ∧ u.cell? ⟨w.heap.size + 3, 1, none⟩ = some (.int .i64 zr.2.1) ∧ u.cell? ⟨w.heap.size + 3, 2, none⟩ = some (.slice ao2 zr.2.2.1.length co2) ∧ u.cell? ⟨w.heap.size + 3, 3, none⟩ = some (.slice ap2 zr.2.2.2.length cp2) ∧ u.cell? ⟨w.heap.size + 1, 0, none⟩ = some (.int .i64 r.1) ∧ u.cell? ⟨w.heap.size + 1, 1, none⟩ = some (.int .i64 r.2.1) ∧ u.cell? ⟨w.heap.size + 1, 2, none⟩ = some (.slice ao r.2.2.1.length co) ∧ u.cell? ⟨w.heap.size + 1, 3, none⟩ = some (.slice ap r.2.2.2.length cp)) from fun u hu => ⟨(Rc.below hu).cell (j := 0) rfl, (Rc.below hu).cell (j := 1) rfl, (Rc.below hu).cell (j := 2) rfl, (Rc.below hu).cell (j := 3) rfl, (R2c.below hu).cell (j := 0) rfl, (R2c.below hu).cell (j := 1) rfl, (R2c.below hu).cell (j := 2) rfl, (R2c.below hu).cell (j := 3) rfl⟩)
  obtain ⟨q0, q1, q2, q3, q4, q5, q6, q7⟩ := SK.out wc (Below.refl _ _)
  have bz : Byt (zB6 zr) := zCw v1.1.1 v2.1.1 zo1
  have br : Byt (zB6 r) := zCw n1.1.1 n2.1.1 hr
  have hdw : Below wc.heap.size wc wc.drew := ⟨rfl, rfl, rfl, zN, fun _ _ => rfl⟩
  obtain ⟨od, hod⟩ : ∃ od, zD8 (zB6 zr) (zB6 r) = od := ⟨_, rfl⟩
  go_upto_region 5 with fail
  try go_simp
  go_cut [10] from 11 (fun s10 wx => s10 = .int .i64 od ∧ Below wc.heap.size wc wx)
  case first =>
    go_wp2_with fail
    go_region_held3 (fun u => u.cell? ⟨w.heap.size + 3, 0, none⟩ = some (.int .i64 zr.1) ∧ u.cell? ⟨w.heap.size + 3, 1, none⟩ = some (.int .i64 zr.2.1) ∧ u.cell? ⟨w.heap.size + 3, 2, none⟩ = some (.slice ao2 zr.2.2.1.length co2) ∧ u.cell? ⟨w.heap.size + 3, 3, none⟩ = some (.slice ap2 zr.2.2.2.length cp2) ∧ u.cell? ⟨w.heap.size + 1, 0, none⟩ = some (.int .i64 r.1) ∧ u.cell? ⟨w.heap.size + 1, 1, none⟩ = some (.int .i64 r.2.1) ∧ u.cell? ⟨w.heap.size + 1, 2, none⟩ = some (.slice ao r.2.2.1.length co) ∧ u.cell? ⟨w.heap.size + 1, 3, none⟩ = some (.slice ap r.2.2.2.length cp))
      (first | exact SK.out _ hb5 | exact SK.out _ hb4 | exact SK.out _ hdw | go_keep)
      (first
        | (go_at_call 44; refine (zIc _ _ _ _ _ ((Own.below ow4 hb45).rd bz) (ow5.rd br)).mono ?_; rintro e w5 ⟨rfl, rfl⟩; rw [hod])
        | (go_at_call 21; have hh := hS1; refine (HN.out _ hb4).mono ?_; rintro e w5 ⟨v5, rfl, ow5, hb45, hb5⟩)
        | (go_at_call 21; refine (HO.out _ (by first | exact hdw | exact Below.refl _ _)).mono ?_; rintro e w4 ⟨v4, rfl, ow4, hb4', hb4⟩; have hS1 := trivial))
    all_goals (
      go_wp2_with fail
      go_meet
      case rel => exact ⟨rfl, hb5⟩)
  case rest =>
  clear q0 q1 q2 q3 q4 q5 q6 q7 HO HN SK hdw bz br v1 v2 v3 n1 n2 n3
  obtain ⟨rfl, Be⟩ := hcut
  rename World => w4
  have BE := zA1 BC zN Be
  have BEc := zA1 Bc zN Be
  have he := hc.below Be
  have R1e := R1c.below Be
  have R2e := R2c.below Be
  have R3e := R3c.below Be
  have Re := Rc.below Be
  have q5 := Re.cell (j := 5) rfl
  clear hc R1c R2c R3c Rc R1 R2 R3
  by_cases ht : zt = true ∨ od = 0
  · have hML := zP3 (r := r) (g := g) hq hz (ht.imp id (fun e => cmp_eq (hod.trans e)))
    have hpick : zt = true ∨ (zt = false ∧ (od == 0) = true) := by
      rcases ht with e | e
      · exact .inl e
      · cases zt with
        | true => exact .inl rfl
        | false => exact .inr ⟨rfl, by simp [e]⟩
    rcases hpick with rfl | ⟨rfl, hd0⟩
    all_goals (
    go_wp2_with (refine zA7 rfl _ _ _ rfl (w.heap.size + 2) [.int .i64 0, .int .i64 0, .int .i64 0, .int .i64 0, .int .i64 0, .int .i64 0, .int .i64 0, .int .i64 0, .int .i64 0, .int .i64 0, .slice none 0 0, .slice none 0 0, .int .i64 0, .int .i64 0, .slice none 0 0, .slice none 0 0, .slice none 0 0, .slice none 0 0, .slice none 0 0, .slice none 0 0, .slice none 0 0, .slice none 0 0, .slice none 0 0] rfl rfl _ _ R3e rfl (by kernel_rfl) zNt ?_; intro w6 R6 g6)
    refine bodyPost_ret (zDx rfl _ _ (w.heap.size + 2) _ _ (0, 0) _ (by rfl) R6.out Tryz.underlying40 rfl (by kernel_rfl)) rfl ?_
    have h6 : Lg G w6 b m ls := he.mv (g6.block b he.lt.1 (zCe hb 2)) (g6.block m he.lt.2 (zCe hm 2)) (zPj g6)
    refine ⟨.inl ⟨by rw [hML], rfl⟩, by rw [hML]; exact h6, zGg (zA8 BE _) g6⟩)
  · have hzt : zt = false := by
      cases zt with
      | true => exact absurd (.inl rfl) ht
      | false => rfl
    have h0 : ¬ od = 0 := fun e => ht (.inr e)
    subst hzt
    have hML := zK7 (r := r) (g := g) hq hz (fun h' => ht (h'.imp id (fun e => by simp only at e; rw [e, zKp] at hod; exact hod.symm)))
    have hok := h.ok.meet (k, x, y, sl, i) hr hg
    rw [hML] at hok
    have hd0 : (od == 0) = false := by simpa using h0
    go_upto_region 9 with (refine zAb rfl _ _ _ rfl (w.heap.size + 3) 5 (.bool true) rfl rfl _ _ Re (show 5 < 6 by decide) (by kernel_rfl) rfl ?_; intro w8 R08 g8)
    have R08 : Row w8 (w.heap.size + 3) 120 [.int .i64 zr.1, .int .i64 zr.2.1, .slice ao2 zr.2.2.1.length co2, .slice ap2 zr.2.2.2.length cp2, .slice as2 zs.length cs2, .bool true] := R08.out
    have h8 := he.mv (g8.block b he.lt.1 (zCe hb 3)) (g8.block m he.lt.2 (zCe hm 3)) (zFf g8)
    have R18 := R1e.grown g8 (fun e => by have := Option.some.inj e; omega)
    have R28 := R2e.grown g8 (fun e => by have := Option.some.inj e; omega)
    have R38 := R3e.grown g8 (fun e => by have := Option.some.inj e; omega)
    have B8 : Below w.heap.size w w8 := BE.trans (zA5 g8 BE.size (fun j hj => by have := Option.some.inj hj; omega))
    obtain ⟨l8, m81, m82⟩ := h8.map
    have hq8 := hq
    rw [← zIg m82] at hq8
    obtain ⟨⟨zk8, zv8⟩, hzz8⟩ : ∃ zz, l8[j]? = some zz := by
      have hlt := (zOg hq8).1
      rw [List.length_map] at hlt
      exact ⟨_, List.getElem?_eq_getElem hlt⟩
    have hk8 := (m82.get hzz8 hz).1
    simp only at hk8
    subst hk8
    obtain ⟨w9, hput, mp9, g9⟩ := Mp.put_old (w := w8.drew) m81 hq8 hzz8 (.agg #[.int .i64 zr.1, .int .i64 zr.2.1, .slice ao2 zr.2.2.1.length co2, .slice ap2 zr.2.2.2.length cp2, .slice as2 zs.length cs2, .bool true])
    have g9 := zB1 g9
    simp only [kv] at hput
    have c8 := h8.row.cell (j := 0) rfl
    have a0 := R18.cell (j := 0) rfl; have a1 := R18.cell (j := 1) rfl; have a2 := R18.cell (j := 2) rfl; have a3 := R18.cell (j := 3) rfl; have a4 := R18.cell (j := 4) rfl
    have f0 := R08.cell (j := 0) rfl; have f1 := R08.cell (j := 1) rfl; have f2 := R08.cell (j := 2) rfl; have f3 := R08.cell (j := 3) rfl; have f4 := R08.cell (j := 4) rfl; have f5 := R08.cell (j := 5) rfl
    clear q5 Re R1e R2e R3e he c0
    try go_simp
    go_cut [] from 11 (fun wx => wx = w9)
    case first =>
      go_region
      all_goals (
        go_wp2_with fail
        go_meet
        case rel => rfl)
    case rest =>
    rw [hcut]
    clear hcut
    have hmv9 : Mv (fun j => G j ∧ j < w.heap.size) (fun j => G j ∧ j < w.heap.size) w8 w9 := Mv.nm hG' g9
    have o1 := ((u1.mv (Mv.belowG BEc)).mv (zFf g8)).mv hmv9
    have o2 := ((u2.mv (Mv.belowG BEc)).mv (zFf g8)).mv hmv9
    have o3 := ((u3.mv (Mv.belowG BEc)).mv (zFf g8)).mv hmv9
    have n1 := ((t1.mv (Mv.belowG BE)).mv (zFf g8)).mv hmv9
    have n2 := ((t2.mv (Mv.belowG BE)).mv (zFf g8)).mv hmv9
    have n3 := ((t3.mv (Mv.belowG BE)).mv (zFf g8)).mv hmv9
    have h9 : Lg (fun j => G j ∧ j < w.heap.size) w9 b m (ls.set j ⟨(k, x, y, sl, i), zr, zs, true⟩) :=
      ⟨h8.rowm g9, hok, _, mp9, zC0.setR (m82.mono fun a c hac => ⟨hac.1, hac.2.mv hmv9⟩) ⟨rfl, _, _, _, rfl, o1, o2, o3⟩⟩
    have G9 : w.grownBy w9 (some m) := zA2 (zA8 B8 _) g9 (.inl rfl)
    have R19 := R18.grown g9 (zCe hm 0)
    have R29 := R28.grown g9 (zCe hm 1)
    have R39 := R38.grown g9 (zCe hm 2)
    have R09 := R08.grown g9 (zCe hm 3)
    have hs9 : w.heap.size + 4 ≤ w9.heap.size := R09.lt
    have hO := fun (v : Value) (l : List Int) (h : RT (fun j => G j ∧ j < w.heap.size) w9 v l) => h.mv (Mv.any)
    clear a0 a1 a2 a3 a4 f0 f1 f2 f3 f4 f5 c8 hput m81 m82 mp9 hmv9 R18 R28 R38 R08 h8
    by_cases hgt : 0 < od
    · have hd1 : decide (0 < od) = true := by simpa using hgt
      have hE := zG4 w9 (k, x, y, sl, i) (.agg #[.int .i64 r.1, .int .i64 r.2.1, .slice ao r.2.2.1.length co, .slice ap r.2.2.2.length cp, .slice as0 g.length cs0, .bool false]) (.agg #[.int .i64 zr.1, .int .i64 zr.2.1, .slice ao2 zr.2.2.1.length co2, .slice ap2 zr.2.2.2.length cp2, .slice as2 zs.length cs2, .bool true]) r zr g zs _ _ ⟨_, _, _, rfl, hO _ _ n1, hO _ _ n2, hO _ _ n3⟩ ⟨_, _, _, rfl, hO _ _ o1, hO _ _ o2, hO _ _ o3⟩ hr zo1 hg zo2 
      simp only [kv] at hE
      go_wp2_with (first
        | (refine zAa rfl _ _ rfl w.heap.size rfl _ _ R19 _ Tryz.underlying116 rfl (by kernel_rfl) ?_)
        | (refine zAa rfl _ _ rfl (w.heap.size + 1) rfl _ _ R29 _ Tryz.underlying120 rfl (by kernel_rfl) ?_)
        | (refine zAa rfl _ _ rfl (w.heap.size + 3) rfl _ _ R09 _ Tryz.underlying120 rfl (by kernel_rfl) ?_)
        | (go_at_call 108; refine hE.mono ?_; rintro e w10 ⟨s10, rfl, k10, b10⟩; have R10 := R39.below b10)
        | (refine zA7 rfl _ _ _ rfl (w.heap.size + 2) (mc (ev0 (k, x, y, sl, i) r g zr zs) s10) rfl rfl _ _ R10 rfl (by kernel_rfl) k10.one ?_; intro w11 R11 g11))
      refine bodyPost_ret (zDx rfl _ _ (w.heap.size + 2) _ _ (0, 0) _ (by rfl) R11.out Tryz.underlying40 rfl (by kernel_rfl)) rfl ?_
      have h11 : Lg G w11 b m (ls.set j ⟨(k, x, y, sl, i), zr, zs, true⟩) := (h9.below b10).mv (g11.block b (h9.below b10).lt.1 (zCe hb 2)) (g11.block m (h9.below b10).lt.2 (zCe hm 2)) (zPj g11)
      have hev : evL (k, x, y, sl, i) zr zs r g = ev0 (k, x, y, sl, i) r g zr zs := by unfold evL; rw [hod]; rw [if_pos (by omega)]
      exact ⟨.inr ⟨ev0 (k, x, y, sl, i) r g zr zs, s10, by rw [hML]; exact congrArg (fun t => [t]) hev, rfl, (k10.mv g11.size (Mv.from (B := w9.heap.size) g11 (by omega) zN)).mv zN (Mv.weak (by omega))⟩, by rw [hML]; exact h11, zGg (zA2 G9 (zA8 b10 _) (.inl rfl)) g11⟩
    · have hd1 : decide (0 < od) = false := by simpa using hgt
      have hE := zG4 w9 (k, x, y, sl, i) (.agg #[.int .i64 zr.1, .int .i64 zr.2.1, .slice ao2 zr.2.2.1.length co2, .slice ap2 zr.2.2.2.length cp2, .slice as2 zs.length cs2, .bool true]) (.agg #[.int .i64 r.1, .int .i64 r.2.1, .slice ao r.2.2.1.length co, .slice ap r.2.2.2.length cp, .slice as0 g.length cs0, .bool false]) zr r zs g _ _ ⟨_, _, _, rfl, hO _ _ o1, hO _ _ o2, hO _ _ o3⟩ ⟨_, _, _, rfl, hO _ _ n1, hO _ _ n2, hO _ _ n3⟩ zo1 hr zo2 hg 
      simp only [kv] at hE
      go_wp2_with (first
        | (refine zAa rfl _ _ rfl w.heap.size rfl _ _ R19 _ Tryz.underlying116 rfl (by kernel_rfl) ?_)
        | (refine zAa rfl _ _ rfl (w.heap.size + 1) rfl _ _ R29 _ Tryz.underlying120 rfl (by kernel_rfl) ?_)
        | (refine zAa rfl _ _ rfl (w.heap.size + 3) rfl _ _ R09 _ Tryz.underlying120 rfl (by kernel_rfl) ?_)
        | (go_at_call 108; refine hE.mono ?_; rintro e w10 ⟨s10, rfl, k10, b10⟩; have R10 := R39.below b10)
        | (refine zA7 rfl _ _ _ rfl (w.heap.size + 2) (mc (ev0 (k, x, y, sl, i) zr zs r g) s10) rfl rfl _ _ R10 rfl (by kernel_rfl) k10.one ?_; intro w11 R11 g11))
      refine bodyPost_ret (zDx rfl _ _ (w.heap.size + 2) _ _ (0, 0) _ (by rfl) R11.out Tryz.underlying40 rfl (by kernel_rfl)) rfl ?_
      have h11 : Lg G w11 b m (ls.set j ⟨(k, x, y, sl, i), zr, zs, true⟩) := (h9.below b10).mv (g11.block b (h9.below b10).lt.1 (zCe hb 2)) (g11.block m (h9.below b10).lt.2 (zCe hm 2)) (zPj g11)
      have hev : evL (k, x, y, sl, i) zr zs r g = ev0 (k, x, y, sl, i) zr zs r g := by unfold evL; rw [hod]; rw [if_neg (by omega)]
      exact ⟨.inr ⟨ev0 (k, x, y, sl, i) zr zs r g, s10, by rw [hML]; exact congrArg (fun t => [t]) hev, rfl, (k10.mv g11.size (Mv.from (B := w9.heap.size) g11 (by omega) zN)).mv zN (Mv.weak (by omega))⟩, by rw [hML]; exact h11, zGg (zA2 G9 (zA8 b10 _) (.inl rfl)) g11⟩
end Go.Proofs.YtgjepofinpmcpaaGreatDoor
