/- The document's Read. -/
import Derived.Test.YtejkkhlblnepeaaGreatKu
set_option linter.unusedVariables false
set_option linter.unusedSimpArgs false
namespace Go.Proofs.YtejkkhlblnepeaaGreat
open Go.RowKit Oct Kvl

def zO : List Value := [.int .i64 0, .slice none 0 0, .slice none 0 0, .slice none 0 0, .int .i64 0]

set_option maxRecDepth 10000 in
set_option maxHeartbeats 8000000 in
/-- The document's Read. -/
theorem refRead_any (w : World) (bv : Value) (l : List Int) (hb : Rd w bv l) (hl : l.length ≤ 140737488355300) :
    Calls Tryz.prog 27 #[bv] w fun e w' => ∃ r', e = .returned (.tuple #[.agg r'.toArray, .int .i64 (errR l)]) ∧ ROp (From w.heap.size) w' r' (opR l) ∧ Below w.heap.size w w' := by
  have le := Nat.le_refl w.heap.size
  have hk := kvR_eq (m := 64) hb.1 (by decide) (by decide)
  obtain ⟨ao, cap, rfl, hcap⟩ := hb.form
  obtain ⟨w0, hw0⟩ : ∃ w0, w0 = (w.alloc (.cells #[.int .i64 0, .slice none 0 0, .slice none 0 0, .slice none 0 0, .int .i64 0] 56)).alloc (.cells #[.int .i64 0, .slice none 0 0, .slice none 0 0, .slice none 0 0, .int .i64 0] 56) := ⟨_, rfl⟩
  have r0 : Row w0 w.heap.size 56 [.int .i64 0, .slice none 0 0, .slice none 0 0, .slice none 0 0, .int .i64 0] := by rw [hw0]; exact rowA (Row.new w 56 _) _
  have o0 : Row w0 (w.heap.size + 1) 56 [.int .i64 0, .slice none 0 0, .slice none 0 0, .slice none 0 0, .int .i64 0] := by
    rw [hw0]
    have := Row.new (w.alloc (.cells #[.int .i64 0, .slice none 0 0, .slice none 0 0, .slice none 0 0, .int .i64 0] 56)) 56 [.int .i64 0, .slice none 0 0, .slice none 0 0, .slice none 0 0, .int .i64 0]
    simpa using this
  have B0 : Below w.heap.size w w0 := by rw [hw0]; exact below_and (below_alloc _ _) le (below_alloc _ _)
  have hs0 : w0.heap.size = w.heap.size + 2 := by rw [hw0]; simp
  have G0 := refGetInt_any w0 _ l 0 (hb.below B0) (by omega)
  have y1 := getB_byt l (getI l 0).2.1 64 hb.1
  have y2 := getB_byt l (getB l (getI l 0).2.1 64).2.1 64 hb.1
  have y3 := getB_byt l (getB l (getB l (getI l 0).2.1 64).2.1 64).2.1 64 hb.1
  have C1 := (show Hid (∀ u, Below w.heap.size w u → ∀ p m : Int, Calls Tryz.prog 64 #[.slice ao l.length cap, .int .i64 p, .int .i64 m] u fun e w' => ∃ v', e = .returned (.tuple #[v', .int .i64 (getB l p m).2.1, .int .i64 (getB l p m).2.2]) ∧ Own w' 5 v' (bc (getB l p m).1) ∧ Fr u.heap.size v' ∧ Below u.heap.size u w') from fun u hu p m => refGetBytes_any u _ l p m (hb.below hu) hl)
  have C2 := (show Hid (∀ u, Below w.heap.size w u → ∀ p : Int, Calls Tryz.prog 63 #[.slice ao l.length cap, .int .i64 p] u fun e w' => e = .returned (.tuple #[.int .i64 (getI l p).1, .int .i64 (getI l p).2.1, .int .i64 (getI l p).2.2]) ∧ Below u.heap.size u w') from fun u hu p => refGetInt_any u _ l p (hb.below hu) (by omega))
  unfold kvR at hk
  simp only at hk
  obtain ⟨D1, hD1⟩ : ∃ D, D = getB l (getI l 0).2.1 64 := ⟨_, rfl⟩
  rw [← hD1] at hk y1 y2 y3
  obtain ⟨D2, hD2⟩ : ∃ D, D = getB l D1.2.1 64 := ⟨_, rfl⟩
  rw [← hD2] at hk y2 y3
  obtain ⟨D3, hD3⟩ : ∃ D, D = getB l D2.2.1 64 := ⟨_, rfl⟩
  rw [← hD3] at hk y3
  obtain ⟨D4, hD4⟩ : ∃ D, D = getI l D3.2.1 := ⟨_, rfl⟩
  rw [← hD4] at hk
  obtain ⟨D0, hD0⟩ : ∃ D, D = getI l 0 := ⟨_, rfl⟩
  rw [← hD0] at hk G0 hD1
  have E1 := (show Hid (D1 = getB l D0.2.1 64) from hD1)
  have E2 := (show Hid (D2 = getB l D1.2.1 64) from hD2)
  have E3 := (show Hid (D3 = getB l D2.2.1 64) from hD3)
  have E4 := (show Hid (D4 = getI l D3.2.1) from hD4)
  have HK : Hid ((if D0.2.2 = 0 ∧ D1.2.2 = 0 ∧ D2.2.2 = 0 ∧ D3.2.2 = 0 ∧ D4.2.2 = 0 ∧ D4.2.1 = (l.length : Int) ∧ wok (D0.1, D1.1, D2.1, D3.1, D4.1) then some (D0.1, D1.1, D2.1, D3.1, D4.1) else none) = rdO l) := hk
  have BAD := (show Hid (¬ (D0.2.2 = 0 ∧ D1.2.2 = 0 ∧ D2.2.2 = 0 ∧ D3.2.2 = 0 ∧ D4.2.2 = 0 ∧ D4.2.1 = (l.length : Int) ∧ wok (D0.1, D1.1, D2.1, D3.1, D4.1)) → rdO l = none) from fun h => by rw [← HK.out, if_neg h])
  have FIN := (show Hid (∀ {w14 w15 : World}, rdO l = none → Below w.heap.size w w14 → w14.grownBy w15 (some w.heap.size) → ∃ r' : List Value, (Ending.returned (.tuple #[.agg ([.int .i64 0, .slice none 0 0, .slice none 0 0, .slice none 0 0, .int .i64 0] : List Value).toArray, .int .i64 71])) = .returned (.tuple #[.agg r'.toArray, .int .i64 (errR l)]) ∧ ROp (From w.heap.size) w15 r' (opR l) ∧ Below w.heap.size w w15) from fun {w14 w15} h b14 hg15 => by
    refine ⟨[.int .i64 0, .slice none 0 0, .slice none 0 0, .slice none 0 0, .int .i64 0], by unfold errR; rw [h], ?_, b14.trans (grown_below hg15 b14.size (fun k hk => by cases hk; exact Nat.le_refl _))⟩
    unfold opR
    rw [h]
    exact ⟨_, _, _, rfl, RT.nil _ _, RT.nil _ _, RT.nil _ _⟩)
  clear hD0 hD1 hD2 hD3 hD4 hk
  have HS0 := (show Hid (w0.heap.size = w.heap.size + 2) from hs0)
  clear hs0
  go_enter Tryz.func27, Tryz.ntmps27
  go_upto_region 2 with fail
  rw [← hw0]
  clear hw0
  go_upto_region 3 with (go_at_call 63; refine G0.mono ?_; rintro e w1 ⟨rfl, hb1⟩)
  have B1 := below_and B0 le hb1
  have r1 := r0.below hb1
  have o1 := o0.below hb1
  have hs1 : w.heap.size + 2 ≤ w1.heap.size := by have := HS0.out; have := hb1.size; omega
  clear G0 r0 o0 hb1 B0 HS0
  by_cases d0 : D0.2.2 = 0
  rotate_left
  · have HN := (show Hid (rdO l = none) from BAD.out fun h => d0 h.1)
    have hd : (D0.2.2 != 0) = true := by simp [d0]
    clear d0
    go_wp2_with (refine wl_store rfl _ _ _ rfl w.heap.size [.int .i64 0, .slice none 0 0, .slice none 0 0, .slice none 0 0, .int .i64 0] rfl rfl _ _ r1 rfl (by kernel_rfl) one5z ?_; intro w15 hr15 hg15)
    refine bodyPost_ret (results_ct rfl _ _ w.heap.size _ _ (0, 0) _ (by rfl) hr15.out Tryz.underlying56 rfl (by kernel_rfl)) rfl ?_
    exact FIN.out HN.out B1 hg15
  have hd : (D0.2.2 != 0) = false := by simp [d0]
  have H0 := (show Hid (D0.2.2 = 0) from d0)
  clear d0
  go_upto_region 6 with fail
  obtain ⟨b, hbb⟩ : ∃ b, b = w1.heap.size := ⟨_, rfl⟩
  obtain ⟨w2, hw2⟩ : ∃ w2, w2 = w1.alloc (.cells #[.slice none 0 0, .slice none 0 0, .slice none 0 0] 107) := ⟨_, rfl⟩
  have t2 : Row w2 b 107 [.slice none 0 0, .slice none 0 0, .slice none 0 0] := by rw [hw2, hbb]; exact Row.new w1 107 _
  have hb2 : Below w1.heap.size w1 w2 := by rw [hw2]; exact below_alloc _ _
  have hs2 : b + 1 ≤ w2.heap.size := by rw [hw2, hbb]; simp
  rw [← hw2, ← hbb]
  have B2 := below_and B1 le hb2
  have r2 := r1.below hb2
  have o2 := o1.below hb2
  rw [← hbb] at hs1
  clear hw2 hb2 r1 o1 B1 hbb
  go_upto_region 7 with fail
  go_loopw [6, 9] (fun s6 s9 wr => ∃ x0 x1 x2, Row wr b 107 [x0, x1, x2] ∧ Row wr w.heap.size 56 [.int .i64 0, .slice none 0 0, .slice none 0 0, .slice none 0 0, .int .i64 0] ∧ Row wr (w.heap.size + 1) 56 [.int .i64 0, .slice none 0 0, .slice none 0 0, .slice none 0 0, .int .i64 0] ∧ Below w.heap.size w wr ∧ b + 1 ≤ wr.heap.size ∧
    ((s9 = .int .i64 0 ∧ s6 = .int .i64 D0.2.1) ∨
     (s9 = .int .i64 1 ∧ s6 = .int .i64 D1.2.1 ∧ Hid (D1.2.2 = 0) ∧ RT (From (b + 1)) wr x0 D1.1) ∨
     (s9 = .int .i64 2 ∧ s6 = .int .i64 D2.2.1 ∧ Hid (D1.2.2 = 0) ∧ Hid (D2.2.2 = 0) ∧ RT (From (b + 1)) wr x0 D1.1 ∧ RT (From (b + 1)) wr x1 D2.1) ∨
     (s9 = .int .i64 3 ∧ s6 = .int .i64 D3.2.1 ∧ Hid (D1.2.2 = 0) ∧ Hid (D2.2.2 = 0) ∧ Hid (D3.2.2 = 0) ∧ RT (From (b + 1)) wr x0 D1.1 ∧ RT (From (b + 1)) wr x1 D2.1 ∧ RT (From (b + 1)) wr x2 D3.1))) (fun _ i _ => 3 - (intOf i).toNat)
  case atStart => exact ⟨_, _, _, t2, r2, o2, B2, hs2, .inl ⟨rfl, rfl⟩⟩
  case round =>
    clear t2 r2 o2 B2 hs2
    obtain ⟨x0, x1, x2, t3, r3, o3, B3, hs3, hrel⟩ := hrel
    rcases hrel with ⟨rfl, rfl⟩ | ⟨rfl, rfl, h1, k1⟩ | ⟨rfl, rfl, h1, h2, k1, k2⟩ | ⟨rfl, rfl, h1, h2, h3, k1, k2, k3⟩
    · have C1' := C1.out wr B3 D0.2.1 64
      rw [← E1.out] at C1'
      by_cases d1 : D1.2.2 = 0
      rotate_left
      · have HN := (show Hid (rdO l = none) from BAD.out fun h => d1 h.2.1)
        have hd1 : (D1.2.2 != 0) = true := by simp [d1]
        clear d1
        go_wp2_with (first
          | (go_at_call 64; refine C1'.mono ?_; rintro e w4 ⟨v4, rfl, t4, f4, hb4⟩; have r4 := r3.below hb4)
          | (refine wl_store rfl _ _ _ rfl w.heap.size [.int .i64 0, .slice none 0 0, .slice none 0 0, .slice none 0 0, .int .i64 0] rfl rfl _ _ r4 rfl (by kernel_rfl) one5z ?_; intro w15 hr15 hg15))
        refine bodyPost_ret (results_ct rfl _ _ w.heap.size _ _ (0, 0) _ (by rfl) hr15.out Tryz.underlying56 rfl (by kernel_rfl)) rfl ?_
        exact FIN.out HN.out (below_and B3 le hb4) hg15
      have hd1 : (D1.2.2 != 0) = false := by simp [d1]
      have H1 := (show Hid (D1.2.2 = 0) from d1)
      clear d1
      go_wp2_with (first
        | (go_at_call 64; refine C1'.mono ?_; rintro e w4 ⟨v4, rfl, t4, f4, hb4⟩; have p4 := t3.below hb4)
        | (refine wl_set rfl _ _ _ rfl b 0 _ rfl rfl _ _ p4 (show 0 < 3 by decide) (by kernel_rfl) (own1 t4) ?_; intro w5 hp5 g5))
      go_roundw
      case measure => simp [intOf]
      case rel =>
        have B4 := below_and B3 le hb4
        have B5 := B4.trans (grown_below g5 B4.size (fun k hk => by cases hk; omega))
        have r5 := (r3.below hb4).grown g5 (fun e => by injection e with e; omega)
        have o5 := (o3.below hb4).grown g5 (fun e => by injection e with e; omega)
        have hs5 : b + 1 ≤ w5.heap.size := by have := hb4.size; have := g5.size; omega
        have kn : RT (From (b + 1)) w5 v4 D1.1 := ((RT.own t4 y1 f4).mv (Mv.weak (L := b + 1) hs3)).mv (Mv.from (L := b + 1) g5 (by omega) (Nat.le_refl _))
        exact ⟨v4, x1, x2, hp5.out, r5, o5, B5, hs5, .inr (.inl ⟨by go_num, rfl, H1, kn⟩)⟩
    · have C1' := C1.out wr B3 D1.2.1 64
      rw [← E2.out] at C1'
      by_cases d1 : D2.2.2 = 0
      rotate_left
      · have HN := (show Hid (rdO l = none) from BAD.out fun h => d1 h.2.2.1)
        have hd1 : (D2.2.2 != 0) = true := by simp [d1]
        clear d1
        go_wp2_with (first
          | (go_at_call 64; refine C1'.mono ?_; rintro e w4 ⟨v4, rfl, t4, f4, hb4⟩; have r4 := r3.below hb4)
          | (refine wl_store rfl _ _ _ rfl w.heap.size [.int .i64 0, .slice none 0 0, .slice none 0 0, .slice none 0 0, .int .i64 0] rfl rfl _ _ r4 rfl (by kernel_rfl) one5z ?_; intro w15 hr15 hg15))
        refine bodyPost_ret (results_ct rfl _ _ w.heap.size _ _ (0, 0) _ (by rfl) hr15.out Tryz.underlying56 rfl (by kernel_rfl)) rfl ?_
        exact FIN.out HN.out (below_and B3 le hb4) hg15
      have hd1 : (D2.2.2 != 0) = false := by simp [d1]
      have H1 := (show Hid (D2.2.2 = 0) from d1)
      clear d1
      go_wp2_with (first
        | (go_at_call 64; refine C1'.mono ?_; rintro e w4 ⟨v4, rfl, t4, f4, hb4⟩; have p4 := t3.below hb4)
        | (refine wl_set rfl _ _ _ rfl b 1 _ rfl rfl _ _ p4 (show 1 < 3 by decide) (by kernel_rfl) (own1 t4) ?_; intro w5 hp5 g5))
      go_roundw
      case measure => simp [intOf]
      case rel =>
        have B4 := below_and B3 le hb4
        have B5 := B4.trans (grown_below g5 B4.size (fun k hk => by cases hk; omega))
        have r5 := (r3.below hb4).grown g5 (fun e => by injection e with e; omega)
        have o5 := (o3.below hb4).grown g5 (fun e => by injection e with e; omega)
        have hs5 : b + 1 ≤ w5.heap.size := by have := hb4.size; have := g5.size; omega
        have kn : RT (From (b + 1)) w5 v4 D2.1 := ((RT.own t4 y2 f4).mv (Mv.weak (L := b + 1) hs3)).mv (Mv.from (L := b + 1) g5 (by omega) (Nat.le_refl _))
        have k1 := (k1.mv (Mv.belowG hb4)).mv (Mv.from (L := b + 1) g5 (by omega) (Nat.le_refl _))
        exact ⟨x0, v4, x2, hp5.out, r5, o5, B5, hs5, .inr (.inr (.inl ⟨by go_num, rfl, h1, H1, k1, kn⟩))⟩
    · have C1' := C1.out wr B3 D2.2.1 64
      rw [← E3.out] at C1'
      by_cases d1 : D3.2.2 = 0
      rotate_left
      · have HN := (show Hid (rdO l = none) from BAD.out fun h => d1 h.2.2.2.1)
        have hd1 : (D3.2.2 != 0) = true := by simp [d1]
        clear d1
        go_wp2_with (first
          | (go_at_call 64; refine C1'.mono ?_; rintro e w4 ⟨v4, rfl, t4, f4, hb4⟩; have r4 := r3.below hb4)
          | (refine wl_store rfl _ _ _ rfl w.heap.size [.int .i64 0, .slice none 0 0, .slice none 0 0, .slice none 0 0, .int .i64 0] rfl rfl _ _ r4 rfl (by kernel_rfl) one5z ?_; intro w15 hr15 hg15))
        refine bodyPost_ret (results_ct rfl _ _ w.heap.size _ _ (0, 0) _ (by rfl) hr15.out Tryz.underlying56 rfl (by kernel_rfl)) rfl ?_
        exact FIN.out HN.out (below_and B3 le hb4) hg15
      have hd1 : (D3.2.2 != 0) = false := by simp [d1]
      have H1 := (show Hid (D3.2.2 = 0) from d1)
      clear d1
      go_wp2_with (first
        | (go_at_call 64; refine C1'.mono ?_; rintro e w4 ⟨v4, rfl, t4, f4, hb4⟩; have p4 := t3.below hb4)
        | (refine wl_set rfl _ _ _ rfl b 2 _ rfl rfl _ _ p4 (show 2 < 3 by decide) (by kernel_rfl) (own1 t4) ?_; intro w5 hp5 g5))
      go_roundw
      case measure => simp [intOf]
      case rel =>
        have B4 := below_and B3 le hb4
        have B5 := B4.trans (grown_below g5 B4.size (fun k hk => by cases hk; omega))
        have r5 := (r3.below hb4).grown g5 (fun e => by injection e with e; omega)
        have o5 := (o3.below hb4).grown g5 (fun e => by injection e with e; omega)
        have hs5 : b + 1 ≤ w5.heap.size := by have := hb4.size; have := g5.size; omega
        have kn : RT (From (b + 1)) w5 v4 D3.1 := ((RT.own t4 y3 f4).mv (Mv.weak (L := b + 1) hs3)).mv (Mv.from (L := b + 1) g5 (by omega) (Nat.le_refl _))
        have k1 := (k1.mv (Mv.belowG hb4)).mv (Mv.from (L := b + 1) g5 (by omega) (Nat.le_refl _))
        have k2 := (k2.mv (Mv.belowG hb4)).mv (Mv.from (L := b + 1) g5 (by omega) (Nat.le_refl _))
        exact ⟨x0, x1, v4, hp5.out, r5, o5, B5, hs5, .inr (.inr (.inr ⟨by go_num, rfl, h1, h2, H1, k1, k2, kn⟩))⟩
    · obtain ⟨a0, c0, rfl, hc0⟩ := k1.form
      obtain ⟨a1, c1, rfl, hc1⟩ := k2.form
      obtain ⟨a2, c2, rfl, hc2⟩ := k3.form
      have C2' := C2.out wr B3 D3.2.1
      rw [← E4.out] at C2'
      clear C1 C2 hc0 hc1 hc2
      go_upto_region 15 with (go_at_call 63; refine C2'.mono ?_; rintro e w4 ⟨rfl, hb4⟩)
      have B4 := below_and B3 le hb4
      have r4 := r3.below hb4
      have o4 := o3.below hb4
      have t4 := t3.below hb4
      have k1 := k1.mv (Mv.belowG hb4)
      have k2 := k2.mv (Mv.belowG hb4)
      have k3 := k3.mv (Mv.belowG hb4)
      have hs4 : b + 1 ≤ w4.heap.size := by have := hb4.size; omega
      have m0 := t4.cell (j := 0) rfl
      have m1 := t4.cell (j := 1) rfl
      have m2 := t4.cell (j := 2) rfl
      clear C2' t3 r3 o3 B3 hs3 hb4
      go_upto_region 16 with (refine wl_store rfl _ _ _ rfl (w.heap.size + 1) [.int .i64 D0.1, .slice a0 D1.1.length c0, .slice a1 D2.1.length c1, .slice a2 D3.1.length c2, .int .i64 D4.1] rfl rfl _ _ o4 rfl (by kernel_rfl) (one5 rfl rfl rfl) ?_; intro w5 ho5 g5)
      have o5 := ho5.out
      have B5 := B4.trans (grown_below g5 B4.size (fun k hk => by cases hk; omega))
      have r5 := r4.grown g5 (fun e => by injection e with e; omega)
      have k1 := k1.mv (Mv.from (L := b + 1) g5 (by omega) (Nat.le_refl _))
      have k2 := k2.mv (Mv.from (L := b + 1) g5 (by omega) (Nat.le_refl _))
      have k3 := k3.mv (Mv.from (L := b + 1) g5 (by omega) (Nat.le_refl _))
      clear m0 m1 m2 t4 o4 r4 g5 B4 ho5
      by_cases d4 : D4.2.2 = 0
      rotate_left
      · have HN := (show Hid (rdO l = none) from BAD.out fun h => d4 h.2.2.2.2.1)
        have hd4 : (D4.2.2 != 0) = true := by simp [d4]
        clear d4
        go_wp2_with (refine wl_store rfl _ _ _ rfl w.heap.size [.int .i64 0, .slice none 0 0, .slice none 0 0, .slice none 0 0, .int .i64 0] rfl rfl _ _ r5 rfl (by kernel_rfl) one5z ?_; intro w15 hr15 hg15)
        refine bodyPost_ret (results_ct rfl _ _ w.heap.size _ _ (0, 0) _ (by rfl) hr15.out Tryz.underlying56 rfl (by kernel_rfl)) rfl ?_
        exact FIN.out HN.out B5 hg15
      have hd4 : (D4.2.2 != 0) = false := by simp [d4]
      have H4 := (show Hid (D4.2.2 = 0) from d4)
      clear d4
      by_cases hp : D4.2.1 = (l.length : Int)
      rotate_left
      · have HN := (show Hid (rdO l = none) from BAD.out fun h => hp h.2.2.2.2.2.1)
        have hpn : (D4.2.1 != (l.length : Int)) = true := by simp [hp]
        clear hp
        go_wp2_with (refine wl_store rfl _ _ _ rfl w.heap.size [.int .i64 0, .slice none 0 0, .slice none 0 0, .slice none 0 0, .int .i64 0] rfl rfl _ _ r5 rfl (by kernel_rfl) one5z ?_; intro w15 hr15 hg15)
        refine bodyPost_ret (results_ct rfl _ _ w.heap.size _ _ (0, 0) _ (by rfl) hr15.out Tryz.underlying56 rfl (by kernel_rfl)) rfl ?_
        exact FIN.out HN.out B5 hg15
      have hpn : (D4.2.1 != (l.length : Int)) = false := by simp [hp]
      have HP := (show Hid (D4.2.1 = (l.length : Int)) from hp)
      clear hp
      have hW := rightOp_any w5 [.int .i64 D0.1, .slice a0 D1.1.length c0, .slice a1 D2.1.length c1, .slice a2 D3.1.length c2, .int .i64 D4.1] (D0.1, D1.1, D2.1, D3.1, D4.1) ⟨_, _, _, rfl, k1.mv Mv.any, k2.mv Mv.any, k3.mv Mv.any⟩
      by_cases hw : wok (D0.1, D1.1, D2.1, D3.1, D4.1)
      rotate_left
      · rw [decide_eq_false hw] at hW
        have HN := (show Hid (rdO l = none) from BAD.out fun h => hw h.2.2.2.2.2.2)
        clear hw
        go_wp2_with (first
          | (refine wl_load_w rfl _ _ rfl (w.heap.size + 1) rfl _ _ o5 _ Tryz.underlying56 rfl (by kernel_rfl) ?_)
          | (go_at_call 65; refine hW.mono ?_; rintro e w14 ⟨rfl, hb14⟩; have r14 := r5.below hb14)
          | (refine wl_store rfl _ _ _ rfl w.heap.size [.int .i64 0, .slice none 0 0, .slice none 0 0, .slice none 0 0, .int .i64 0] rfl rfl _ _ r14 rfl (by kernel_rfl) one5z ?_; intro w15 hr15 hg15))
        refine bodyPost_ret (results_ct rfl _ _ w.heap.size _ _ (0, 0) _ (by rfl) hr15.out Tryz.underlying56 rfl (by kernel_rfl)) rfl ?_
        exact FIN.out HN.out (below_and B5 le hb14) hg15
      rw [decide_eq_true hw] at hW
      have HN := (show Hid (rdO l = some (D0.1, D1.1, D2.1, D3.1, D4.1)) by
        show _ = _
        rw [← HK.out, if_pos ⟨H0.out, h1.out, h2.out, h3.out, H4.out, HP.out, hw⟩])
      clear hw
      go_wp2_with (first
        | (refine wl_load_w rfl _ _ rfl (w.heap.size + 1) rfl _ _ o5 _ Tryz.underlying56 rfl (by kernel_rfl) ?_)
        | (go_at_call 65; refine hW.mono ?_; rintro e w14 ⟨rfl, hb14⟩; have r14 := r5.below hb14; have o14 := o5.below hb14)
        | (refine wl_load rfl _ _ rfl (w.heap.size + 1) rfl _ _ o14 _ Tryz.underlying56 rfl (by kernel_rfl) ?_)
        | (refine wl_store rfl _ _ _ rfl w.heap.size [.int .i64 D0.1, .slice a0 D1.1.length c0, .slice a1 D2.1.length c1, .slice a2 D3.1.length c2, .int .i64 D4.1] rfl rfl _ _ r14 rfl (by kernel_rfl) (one5 rfl rfl rfl) ?_; intro w15 hr15 hg15))
      refine bodyPost_ret (results_ct rfl _ _ w.heap.size _ _ (0, 0) _ (by rfl) hr15.out Tryz.underlying56 rfl (by kernel_rfl)) rfl ?_
      have b14 := below_and B5 le hb14
      refine ⟨[.int .i64 D0.1, .slice a0 D1.1.length c0, .slice a1 D2.1.length c1, .slice a2 D3.1.length c2, .int .i64 D4.1], by unfold errR; rw [HN.out]; rfl, ?_, b14.trans (grown_below hg15 b14.size (fun k hk => by cases hk; exact Nat.le_refl _))⟩
      unfold opR
      rw [HN.out]
      exact ⟨_, _, _, rfl, (k1.mv (Mv.belowG hb14)).mv (Mv.from (L := w.heap.size) hg15 (by omega) (by omega)), (k2.mv (Mv.belowG hb14)).mv (Mv.from (L := w.heap.size) hg15 (by omega) (by omega)), (k3.mv (Mv.belowG hb14)).mv (Mv.from (L := w.heap.size) hg15 (by omega) (by omega))⟩
end Go.Proofs.YtejkkhlblnepeaaGreat
