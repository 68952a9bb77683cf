/- Evidences of two votes are proofs; proofAlive. -/
import Derived.Test.YtgjepofinpmcpaaGreatDoorMBV
import Derived.Test.YtgjepofinpmcpaaGreatDoorMBQ
set_option linter.unusedSimpArgs false
set_option linter.unusedVariables false
namespace Go.Proofs.YtgjepofinpmcpaaGreatDoor
section
open Go.RowKit Oct Kvl
theorem zIx (w : World) : Below w.heap.size w w.drew := ⟨rfl, rfl, rfl, zN, fun _ _ => rfl⟩
theorem toNMe {m : Nat} {w : World} (h : w.heap.size ≤ m) : Mv Any (NM m) w w := fun k _ hlt => ⟨rfl, fun e => by omega⟩
def lsE (x y s i : Int) (r0 : zB3) : List PSn := (zH5 [] 2 x y s r0 [(i, sgn 2 x y s r0 i)]).1
def evsL (x y s i : Int) (r0 r1 : zB3) : List PMsg := (zH5 (lsE x y s i r0) 2 x y s r1 [(i, sgn 2 x y s r1 i)]).2
set_option maxRecDepth 10000 in
set_option maxHeartbeats 4000000 in
theorem zLv (w : World) (x y s i : Int) (o0 p0 o1 p1 : Value) (r0 r1 : zB3) (t0 : RT Any w o0 r0.2.2.1) (u0 : RT Any w p0 r0.2.2.2) (t1 : RT Any w o1 r1.2.2.1) (u1 : RT Any w p1 r1.2.2.2) (z0 : tot [r0.2.2.1, r0.2.2.2] ≤ 2000000) (z1 : tot [r1.2.2.1, r1.2.2.2] ≤ 2000000) (hT : Tab w) :
    Calls Tryz.prog 15 #[.agg #[.int .i64 x, .int .i64 y], .int .i64 s, .int .i64 i, .agg #[.int .i64 r0.1, .int .i64 r0.2.1, o0, p0], .agg #[.int .i64 r1.1, .int .i64 r1.2.1, o1, p1]] w fun e w' => ∃ v', e = .returned v' ∧ RL RMs 23 Any w' v' (evsL x y s i r0 r1) ∧ Below w.heap.size w w' := by
  obtain ⟨ao0, co0, rfl, _⟩ := t0.form
  obtain ⟨ap0, cp0, rfl, _⟩ := u0.form
  obtain ⟨ao1, co1, rfl, _⟩ := t1.form
  obtain ⟨ap1, cp1, rfl, _⟩ := u1.form
  obtain ⟨w1, hw1⟩ : ∃ w1, w1 = w.alloc (.cells #[.int .i64 x, .int .i64 y] 32) := ⟨_, rfl⟩
  obtain ⟨w2, hw2⟩ : ∃ w2, w2 = w1.alloc (.cells #[.int .i64 r0.1, .int .i64 r0.2.1, .slice ao0 r0.2.2.1.length co0, .slice ap0 r0.2.2.2.length cp0] 34) := ⟨_, rfl⟩
  obtain ⟨w3, hw3⟩ : ∃ w3, w3 = w2.alloc (.cells #[.int .i64 r1.1, .int .i64 r1.2.1, .slice ao1 r1.2.2.1.length co1, .slice ap1 r1.2.2.2.length cp1] 34) := ⟨_, rfl⟩
  have e1 : w1.heap.size = w.heap.size + 1 := by rw [hw1]; simp
  have e2 : w2.heap.size = w.heap.size + 2 := by rw [hw2]; simp [e1]
  have B1 : Below w.heap.size w w1 := by rw [hw1]; exact zA0 _ _
  have B2 : Below w1.heap.size w1 w2 := by rw [hw2]; exact zA0 _ _
  have B3 : Below w2.heap.size w2 w3 := by rw [hw3]; exact zA0 _ _
  have rB : Row w1 w.heap.size 32 [.int .i64 x, .int .i64 y] := by rw [hw1]; exact Row.new _ _ _
  have rR0 : Row w2 (w.heap.size + 1) 34 [.int .i64 r0.1, .int .i64 r0.2.1, .slice ao0 r0.2.2.1.length co0, .slice ap0 r0.2.2.2.length cp0] := by rw [hw2, ← e1]; exact Row.new _ _ _
  have rR1 : Row w3 (w.heap.size + 2) 34 [.int .i64 r1.1, .int .i64 r1.2.1, .slice ao1 r1.2.2.1.length co1, .slice ap1 r1.2.2.2.length cp1] := by rw [hw3, ← e2]; exact Row.new _ _ _
  have rB := (rB.below B2).below B3
  have rR0 := rR0.below B3
  have B : Below w.heap.size w w3 := zA1 (zA1 B1 zN B2) zN B3
  have hw : w3 = ((w.alloc (.cells #[.int .i64 x, .int .i64 y] 32)).alloc (.cells #[.int .i64 r0.1, .int .i64 r0.2.1, .slice ao0 r0.2.2.1.length co0, .slice ap0 r0.2.2.2.length cp0] 34)).alloc (.cells #[.int .i64 r1.1, .int .i64 r1.2.1, .slice ao1 r1.2.2.1.length co1, .slice ap1 r1.2.2.2.length cp1] 34) := by rw [hw3, hw2, hw1]
  clear hw1 hw2 hw3 e1 e2 B1 B2 B3
  go_enter Tryz.func15, Tryz.ntmps15
  go_upto_region 1 with fail
  rw [← hw]
  clear hw
  simp only [show w.heap.size + 1 + 1 = w.heap.size + 2 from rfl]
  obtain ⟨cB, hcB⟩ : ∃ c, c = w.heap.size := ⟨_, rfl⟩
  obtain ⟨cR0, hcR0⟩ : ∃ c, c = w.heap.size + 1 := ⟨_, rfl⟩
  obtain ⟨cR1, hcR1⟩ : ∃ c, c = w.heap.size + 2 := ⟨_, rfl⟩
  rw [← hcR0] at rR0 ⊢
  rw [← hcR1] at rR1 ⊢
  rw [← hcB] at rB ⊢
  clear hcB hcR0 hcR1
  have hNW := newG_any w3
  go_upto_region 4 with (go_at_call 32; refine hNW.mono ?_; rintro e w4 ⟨rfl, l4, b4⟩)
  have hm5 : w.heap.size ≤ w3.heap.size := B.size
  have BW := zA1 B zN b4
  have rB := rB.below b4
  have rR0 := rR0.below b4
  have rR1 := rR1.below b4
  have t0 := ((t0.mv (Mv.below B)).mv (toNMe zN)).mv (Mv.belowG b4)
  have u0 := ((u0.mv (Mv.below B)).mv (toNMe zN)).mv (Mv.belowG b4)
  have t1 := ((t1.mv (Mv.below B)).mv (toNMe zN)).mv (Mv.belowG b4)
  have u1 := ((u1.mv (Mv.below B)).mv (toNMe zN)).mv (Mv.belowG b4)
  have hT4 := (hT.below B).below b4
  clear hNW B b4 hT
  generalize hm : w3.heap.size = m at *
  generalize hb : m + 1 = b at *
  clear hm hb
  have hmB := l4.nrow rB
  have hmR0 := l4.nrow rR0
  have hmR1 := l4.nrow rR1
  have SK0 := (show Hid (∀ u, w4.grownBy u (some m) → u.cell? ⟨cB, 0, none⟩ = some (.int .i64 x) ∧ u.cell? ⟨cB, 1, none⟩ = some (.int .i64 y) ∧ u.cell? ⟨cR0, 0, none⟩ = some (.int .i64 r0.1) ∧ u.cell? ⟨cR0, 1, none⟩ = some (.int .i64 r0.2.1) ∧ u.cell? ⟨cR0, 2, none⟩ = some (.slice ao0 r0.2.2.1.length co0) ∧ u.cell? ⟨cR0, 3, none⟩ = some (.slice ap0 r0.2.2.2.length cp0)) from fun u hu => ⟨(rB.grown hu hmB).cell (j := 0) rfl, (rB.grown hu hmB).cell (j := 1) rfl, (rR0.grown hu hmR0).cell (j := 0) rfl, (rR0.grown hu hmR0).cell (j := 1) rfl, (rR0.grown hu hmR0).cell (j := 2) rfl, (rR0.grown hu hmR0).cell (j := 3) rfl⟩)
  obtain ⟨q0, q1, q2, q3, q4, q5⟩ := SK0.out w4 (zA8 (Below.refl _ _) _)
  have hd0 := zIx w4
  have gd0 : w4.grownBy w4.drew (some m) := zA8 hd0 _
  have HB0 := (show Hid (∀ _ : Unit, _) from fun _ => zDs w4.drew [.int .i64 r0.1, .int .i64 r0.2.1, .slice ao0 r0.2.2.1.length co0, .slice ap0 r0.2.2.2.length cp0] r0 ⟨_, _, rfl, (t0.mv (Mv.belowG hd0)).mv Mv.any, (u0.mv (Mv.belowG hd0)).mv Mv.any⟩ (Nat.le_trans z0 (by decide)))
  have hbb0 : Byt (zB6 r0) := zCw t0.1.1 u0.1.1 z0
  have HBL0 := (show Hid ((zB6 r0).length ≤ 3000000) from zDw z0)
  go_wp2_with fail
  go_region_held3 (fun u => u.cell? ⟨cB, 0, none⟩ = some (.int .i64 x) ∧ u.cell? ⟨cB, 1, none⟩ = some (.int .i64 y) ∧ u.cell? ⟨cR0, 0, none⟩ = some (.int .i64 r0.1) ∧ u.cell? ⟨cR0, 1, none⟩ = some (.int .i64 r0.2.1) ∧ u.cell? ⟨cR0, 2, none⟩ = some (.slice ao0 r0.2.2.1.length co0) ∧ u.cell? ⟨cR0, 3, none⟩ = some (.slice ap0 r0.2.2.2.length cp0))
    (first | exact SK0.out _ gx0 | exact SK0.out _ gb0 | exact SK0.out _ ga0 | exact SK0.out _ gc0 | exact SK0.out _ gd0 | go_keep)
    (first
      | (go_at_call 33; refine hN0.mono ?_; rintro e wx0 ⟨vx0, rfl, ex0, lx0, gx'0⟩; have gx0 : w4.grownBy wx0 (some m) := zA2 ga0 gx'0 (.inl rfl); obtain ⟨ax0, cx0, rfl, _⟩ := ex0.form)
      | (go_at_call 20; refine (zLs wc0 2 x y s i vc0 (zB6 r0) (oc0.rd hbb0) HBL0.out (hT4.below bc0)).mono ?_; rintro e wa0 ⟨va0, rfl, fa'0, ba0⟩; have fa0 : RT (zB0 wc0.heap.size) wa0 va0 (sgn 2 x y s r0 i) := fa'0; obtain ⟨aa0, ca0, rfl, _⟩ := fa0.form; have bb0 : Below w4.heap.size w4 wa0 := zA1 bc0 zN ba0; have ga0 : w4.grownBy wa0 (some m) := zA8 bb0 _; have gb0 : w4.grownBy (wa0.alloc (.cells #[.int .i64 i, .slice aa0 (sgn 2 x y s r0 i).length ca0] 58)) (some m) := zA2 ga0 (zA8 (zA0 _ _) _) (.inl rfl); have hN0 := zM9 wa0 b m [] (l4.below bb0) 2 x y s i [.int .i64 r0.1, .int .i64 r0.2.1, .slice ao0 r0.2.2.1.length co0, .slice ap0 r0.2.2.2.length cp0] r0 ⟨_, _, rfl, t0.mv (Mv.belowG bb0), u0.mv (Mv.belowG bb0)⟩ z0 _ _ (fa0.mv (toNM (l4.below bc0).lt.2)) (sgn_sz _ _ _ _ _ _) (hT4.below bb0))
      | (go_at_call 21; refine (HB0.out ()).mono ?_; rintro e wc0 ⟨vc0, rfl, oc0, fc0, bc'0⟩; have bc0 : Below w4.heap.size w4 wc0 := hd0.trans bc'0; have gc0 : w4.grownBy wc0 (some m) := zA8 bc0 _))
  have hmv : Mv (NM m) (NM m) w4 wx0 := Mv.nm (fun k hk => hk) gx0
  have rB := rB.grown gx0 hmB
  have rR1 := rR1.grown gx0 hmR1
  have t1 := t1.mv hmv
  have u1 := u1.mv hmv
  have hT5 := hT4.grown gx0 (l4.ntab hT4)
  have BX := BW.trans (zA5 gx0 (Nat.le_trans hm5 (Nat.le_of_lt l4.lt.2)) (fun q hq => by have := Option.some.inj hq; omega))
  have l5 : Lg (NM m) wx0 b m (lsE x y s i r0) := lx0
  clear SK0 HB0 hN0 q0 q1 q2 q3 q4 q5 gd0 hd0 ga0 gb0 gc0 fa0 fa'0 ba0 bb0 gx'0 ex0 lx0 hmv hT4 BW l4 t0 u0 rR0 hmR0 HBL0 hbb0 oc0 fc0 bc0 bc'0 gx0
  generalize hLS : lsE x y s i r0 = LS at *
  have HLS := (show Hid (lsE x y s i r0 = LS) from hLS)
  clear hLS
  have SK1 := (show Hid (∀ u, wx0.grownBy u (some m) → u.cell? ⟨cB, 0, none⟩ = some (.int .i64 x) ∧ u.cell? ⟨cB, 1, none⟩ = some (.int .i64 y) ∧ u.cell? ⟨cR1, 0, none⟩ = some (.int .i64 r1.1) ∧ u.cell? ⟨cR1, 1, none⟩ = some (.int .i64 r1.2.1) ∧ u.cell? ⟨cR1, 2, none⟩ = some (.slice ao1 r1.2.2.1.length co1) ∧ u.cell? ⟨cR1, 3, none⟩ = some (.slice ap1 r1.2.2.2.length cp1)) from fun u hu => ⟨(rB.grown hu hmB).cell (j := 0) rfl, (rB.grown hu hmB).cell (j := 1) rfl, (rR1.grown hu hmR1).cell (j := 0) rfl, (rR1.grown hu hmR1).cell (j := 1) rfl, (rR1.grown hu hmR1).cell (j := 2) rfl, (rR1.grown hu hmR1).cell (j := 3) rfl⟩)
  obtain ⟨q0, q1, q2, q3, q4, q5⟩ := SK1.out wx0 (zA8 (Below.refl _ _) _)
  have hd1 := zIx wx0
  have gd1 : wx0.grownBy wx0.drew (some m) := zA8 hd1 _
  have HB1 := (show Hid (∀ _ : Unit, _) from fun _ => zDs wx0.drew [.int .i64 r1.1, .int .i64 r1.2.1, .slice ao1 r1.2.2.1.length co1, .slice ap1 r1.2.2.2.length cp1] r1 ⟨_, _, rfl, (t1.mv (Mv.belowG hd1)).mv Mv.any, (u1.mv (Mv.belowG hd1)).mv Mv.any⟩ (Nat.le_trans z1 (by decide)))
  have hbb1 : Byt (zB6 r1) := zCw t1.1.1 u1.1.1 z1
  have HBL1 := (show Hid ((zB6 r1).length ≤ 3000000) from zDw z1)
  go_wp2_with fail
  go_region_held3 (fun u => u.cell? ⟨cB, 0, none⟩ = some (.int .i64 x) ∧ u.cell? ⟨cB, 1, none⟩ = some (.int .i64 y) ∧ u.cell? ⟨cR1, 0, none⟩ = some (.int .i64 r1.1) ∧ u.cell? ⟨cR1, 1, none⟩ = some (.int .i64 r1.2.1) ∧ u.cell? ⟨cR1, 2, none⟩ = some (.slice ao1 r1.2.2.1.length co1) ∧ u.cell? ⟨cR1, 3, none⟩ = some (.slice ap1 r1.2.2.2.length cp1))
    (first | exact SK1.out _ gx1 | exact SK1.out _ gb1 | exact SK1.out _ ga1 | exact SK1.out _ gc1 | exact SK1.out _ gd1 | go_keep)
    (first
      | (go_at_call 33; refine hN1.mono ?_; rintro e wx1 ⟨vx1, rfl, ex1, lx1, gx'1⟩; have gx1 : wx0.grownBy wx1 (some m) := zA2 ga1 gx'1 (.inl rfl); obtain ⟨ax1, cx1, rfl, _⟩ := ex1.form)
      | (go_at_call 20; refine (zLs wc1 2 x y s i vc1 (zB6 r1) (oc1.rd hbb1) HBL1.out (hT5.below bc1)).mono ?_; rintro e wa1 ⟨va1, rfl, fa'1, ba1⟩; have fa1 : RT (zB0 wc1.heap.size) wa1 va1 (sgn 2 x y s r1 i) := fa'1; obtain ⟨aa1, ca1, rfl, _⟩ := fa1.form; have bb1 : Below wx0.heap.size wx0 wa1 := zA1 bc1 zN ba1; have ga1 : wx0.grownBy wa1 (some m) := zA8 bb1 _; have gb1 : wx0.grownBy (wa1.alloc (.cells #[.int .i64 i, .slice aa1 (sgn 2 x y s r1 i).length ca1] 58)) (some m) := zA2 ga1 (zA8 (zA0 _ _) _) (.inl rfl); have hN1 := zM9 wa1 b m LS (l5.below bb1) 2 x y s i [.int .i64 r1.1, .int .i64 r1.2.1, .slice ao1 r1.2.2.1.length co1, .slice ap1 r1.2.2.2.length cp1] r1 ⟨_, _, rfl, t1.mv (Mv.belowG bb1), u1.mv (Mv.belowG bb1)⟩ z1 _ _ (fa1.mv (toNM (l5.below bc1).lt.2)) (sgn_sz _ _ _ _ _ _) (hT5.below bb1))
      | (go_at_call 21; refine (HB1.out ()).mono ?_; rintro e wc1 ⟨vc1, rfl, oc1, fc1, bc'1⟩; have bc1 : Below wx0.heap.size wx0 wc1 := hd1.trans bc'1; have gc1 : wx0.grownBy wc1 (some m) := zA8 bc1 _))
  have BY := BX.trans (zA5 gx1 (Nat.le_trans hm5 (Nat.le_of_lt l5.lt.2)) (fun q hq => by have := Option.some.inj hq; omega))
  have hE : RL RMs 23 Any wx1 _ (zH5 LS 2 x y s r1 [(i, sgn 2 x y s r1 i)]).2 := ex1.mv zIb zN Mv.any
  have hV : evsL x y s i r0 r1 = (zH5 LS 2 x y s r1 [(i, sgn 2 x y s r1 i)]).2 := by unfold evsL; rw [HLS.out]
  go_wp2_with fail
  go_ret
  exact ⟨_, rfl, by rw [hV]; exact hE, BY⟩
end
section
open Go.RowKit Oct Kvl
structure QOk (r : zB3) : Prop where
  c0 : 0 ≤ r.1
  c1 : r.1 ≤ 2147483647
  s0 : 0 ≤ r.2.1
  s1 : r.2.1 ≤ 2147483647
  o : r.2.2.1.length ≤ 65536
  g : r.2.2.2.length ≤ 65536
theorem QOk.tot {r : zB3} (h : QOk r) : tot [r.2.2.1, r.2.2.2] ≤ 2000000 := by
  have := h.o
  have := h.g
  simp only [Oct.tot]
  omega
structure XOk (x y s i : Int) : Prop where
  x0 : 0 ≤ x
  x1 : x ≤ 2147483647
  y0 : 0 ≤ y
  y1 : y ≤ 2147483647
  s0 : 0 ≤ s
  s1 : s ≤ 2147483647
  i0 : 0 ≤ i
  i1 : i ≤ 15
theorem zL8 {k x y s : Int} {r : zB3} {i : Int} (h0 : 0 ≤ i) (h1 : i ≤ 15) : (sgn k x y s r i).length = 32 := by
  unfold sgn
  rw [zLt _ _ (by rw [zOt h0 h1]; omega) (by rw [zOt h0 h1]; omega)]
theorem zGw {n : Int} (h0 : 0 ≤ n) (h1 : n ≤ 2147483647) : (zCm n).length ≤ 5 := by rw [zCj h0 h1]; exact enc_len5 n h0 h1
theorem req_ok {r : zB3} (h : QOk r) : zBc.ok r = true ∧ (zBc.wr r).length ≤ 140000 := by
  have a := zBm h.c0 h.c1
  have b := zBm h.s0 h.s1
  have p := zGw h.c0 h.c1
  have q := zGw h.s0 h.s1
  have e1 := zB7 r.2.2.1.length
  have e2 := zB7 r.2.2.2.length
  have := h.o
  have := h.g
  refine ⟨?_, ?_⟩
  · simp [zBc, cP, cN, cT, a, b]
    omega
  · simp only [zBc, cP, cN, cT, List.length_append]
    omega
theorem zOc {x y s i : Int} {ra rb : zB3} {ga gb : List Int} (hx : XOk x y s i) (ha : QOk ra) (hb : QOk rb) (la : ga.length = 32) (lb : gb.length = 32) :
    zFi (ev0 (2, x, y, s, i) ra ga rb gb) = false ∧ (byM (ev0 (2, x, y, s, i) ra ga rb gb)).length ≤ 1048576 := by
  obtain ⟨a1, a2⟩ := req_ok ha
  obtain ⟨b1, b2⟩ := req_ok hb
  refine ⟨zNr (show fl 13 ≠ [] by decide) ?_ ?_, ?_⟩
  · intro j hj hn
    have hn : j ∉ [0, 1, 2, 4, 6, 7, 8, 9] := hn
    rcases zI6 hj with rfl | rfl | rfl | rfl | rfl | rfl | rfl | rfl | rfl | rfl | rfl | rfl | rfl | rfl | rfl <;> first | rfl | exact absurd (by decide) hn
  · intro j hj
    have hj : j ∈ [0, 1, 2, 4, 6, 7, 8, 9] := hj
    simp only [List.mem_cons, List.not_mem_nil, or_false] at hj
    rcases hj with rfl | rfl | rfl | rfl | rfl | rfl | rfl | rfl
    · show (okI x && okI y) = true
      rw [zBm hx.x0 hx.x1, zBm hx.y0 hx.y1]; rfl
    · exact zBm hx.s0 hx.s1
    · exact zBm (n := i) hx.i0 (by have := hx.i1; omega)
    · exact zBm (n := 2) (by decide) (by decide)
    · exact a1
    · exact b1
    · show decide (gb.length ≤ 65536) = true
      rw [lb]; rfl
    · show decide (ga.length ≤ 65536) = true
      rw [la]; rfl
  · have e : byM (ev0 (2, x, y, s, i) ra ga rb gb) = zCm 13 ++ ((zCm x ++ zCm y) ++ (zCm s ++ (zCm i ++ (zCm 2 ++ (zBc.wr ra ++ (zBc.wr rb ++ ((enc gb.length ++ gb) ++ ((enc ga.length ++ ga) ++ [])))))))) := rfl
    rw [e]
    have p0 := zGw (n := 13) (by decide) (by decide)
    have p1 := zGw hx.x0 hx.x1
    have p2 := zGw hx.y0 hx.y1
    have p3 := zGw hx.s0 hx.s1
    have p4 := zGw hx.i0 (by have := hx.i1; omega)
    have p5 := zGw (n := 2) (by decide) (by decide)
    have p6 := zB7 gb.length
    have p7 := zB7 ga.length
    simp only [List.length_append, List.length_nil]
    omega
theorem zRq {x y s i : Int} {ra rb : zB3} (hx : XOk x y s i) (hc : zD8 (zB6 ra) (zB6 rb) < 0) : shw (ev0 (2, x, y, s, i) ra (sgn 2 x y s ra i) rb (sgn 2 x y s rb i)) = true := by
  have h1 : zMn 2 x y s ra (i, sgn 2 x y s ra i) = true := zKk 2 x y s ra hx.i0 hx.i1
  have h2 : zMn 2 x y s rb (i, sgn 2 x y s rb i) = true := zKk 2 x y s rb hx.i0 hx.i1
  show (decide (zD8 (zB6 ra) (zB6 rb) < 0) && zMn 2 x y s ra (i, sgn 2 x y s ra i) && zMn 2 x y s rb (i, sgn 2 x y s rb i)) = true
  rw [h1, h2, decide_eq_true hc]
  rfl
def evE (x y s i : Int) (r0 r1 : zB3) : PMsg := evL (2, x, y, s, i) r0 (sgn 2 x y s r0 i) r1 (sgn 2 x y s r1 i)
theorem zK1 {x y s i : Int} {r0 r1 : zB3} (hx : XOk x y s i) (h0 : QOk r0) (h1 : QOk r1) (hn : zB6 r0 ≠ zB6 r1) :
    zFi (evE x y s i r0 r1) = false ∧ (byM (evE x y s i r0 r1)).length ≤ 1048576 ∧ shw (evE x y s i r0 r1) = true := by
  unfold evE evL
  by_cases hc : 0 < zD8 (zB6 r0) (zB6 r1)
  · rw [if_pos hc]
    obtain ⟨a, b⟩ := zOc hx h1 h0 (zL8 (k := 2) (x := x) (y := y) (s := s) (r := r1) hx.i0 hx.i1) (zL8 (k := 2) (x := x) (y := y) (s := s) (r := r0) hx.i0 hx.i1)
    exact ⟨a, b, zRq hx (by rw [zTa]; omega)⟩
  · rw [if_neg hc]
    obtain ⟨a, b⟩ := zOc hx h0 h1 (zL8 (k := 2) (x := x) (y := y) (s := s) (r := r0) hx.i0 hx.i1) (zL8 (k := 2) (x := x) (y := y) (s := s) (r := r1) hx.i0 hx.i1)
    refine ⟨a, b, zRq hx ?_⟩
    have : zD8 (zB6 r0) (zB6 r1) ≠ 0 := fun e => hn (cmp_zero.1 e)
    omega
theorem zTb (x y s i : Int) (r0 r1 : zB3) : (evE x y s i r0 r1).kind = 13 ∧ (evE x y s i r0 r1).frm = i ∧ (evE x y s i r0 r1).idx = 2 := by
  unfold evE evL ev0
  split <;> exact ⟨rfl, rfl, rfl⟩
theorem may_ev (x y s i : Int) (r0 r1 : zB3) (hi : 0 ≤ i) (n : Int) : may (evE x y s i r0 r1) n = (Bal.rgt n && decide (i < n)) := by
  obtain ⟨a, b, c⟩ := zTb x y s i r0 r1
  unfold may
  rw [a, b, c]
  simp [hi]
theorem zSi {m : PMsg} (h : zFi m = false) (hl : (byM m).length ≤ 1048576) : zE5 (byM m) = 0 ∧ zC6 (byM m) = m := by
  unfold zE5 zC6
  have h' : ¬ 1048576 < (byM m).length := by omega
  rw [if_neg h', if_neg h', rdM_fwd h]
  exact ⟨rfl, rfl⟩
theorem chk_ev {x y s i : Int} {r0 r1 : zB3} (hx : XOk x y s i) (h0 : QOk r0) (h1 : QOk r1) (hn : zB6 r0 ≠ zB6 r1) (n : Int) :
    zF5 (byM (evE x y s i r0 r1)) n = (Bal.rgt n && decide (i < n)) := by
  obtain ⟨a, b, c⟩ := zK1 hx h0 h1 hn
  obtain ⟨d, e⟩ := zSi a b
  unfold zF5
  rw [d, e, c, may_ev _ _ _ _ _ _ hx.i0]
  simp
theorem mk_ev {x y s i : Int} {r0 r1 : zB3} (hx : XOk x y s i) (h0 : QOk r0) (h1 : QOk r1) (hn : zB6 r0 ≠ zB6 r1) :
    mkE (evE x y s i r0 r1) = 0 ∧ mkB (evE x y s i r0 r1) = byM (evE x y s i r0 r1) := by
  obtain ⟨a, b, c⟩ := zK1 hx h0 h1 hn
  have hE : zCr (evE x y s i r0 r1) = 0 := by unfold zCr; rw [if_neg (by rw [a]; decide), if_neg (by omega)]
  have hB : zEj (evE x y s i r0 r1) = byM (evE x y s i r0 r1) := by unfold zEj; rw [if_pos hE]
  have hm : mkL (evE x y s i r0 r1) = true := by
    unfold mkL
    rw [hE, hB, chk_ev hx h0 h1 hn]
    have := hx.i1
    simp [Bal.rgt]
    omega
  obtain ⟨p, q⟩ := zLy hm
  exact ⟨q, by rw [p, hB]⟩
theorem chkW_ev {x y s i : Int} {r0 r1 : zB3} (hx : XOk x y s i) (h0 : QOk r0) (h1 : QOk r1) (hn : zB6 r0 ≠ zB6 r1) (n : Int) :
    zQi (byM (evE x y s i r0 r1)) n = (if (Bal.rgt n && decide (i < n)) = true then i else 0) ∧ zRp (byM (evE x y s i r0 r1)) n = (if (Bal.rgt n && decide (i < n)) = true then 0 else 161) := by
  obtain ⟨a, b, c⟩ := zK1 hx h0 h1 hn
  obtain ⟨d, e⟩ := zSi a b
  unfold zQi zRp
  rw [chk_ev hx h0 h1 hn, e, (zTb x y s i r0 r1).2.1]
  exact ⟨rfl, rfl⟩
theorem zRx {x y s i : Int} {r0 r1 : zB3} (hx : XOk x y s i) (hb : zB6 r0 ≠ zB6 r1) : evsL x y s i r0 r1 = [evE x y s i r0 r1] := by
  have e : lsE x y s i r0 = [⟨(2, x, y, s, i), r0, sgn 2 x y s r0 i, false⟩] := by
    unfold lsE
    rw [zPk (.inl rfl) (zKk _ _ _ _ _ hx.i0 hx.i1)]
    rfl
  unfold evsL
  rw [e, zPk (.inl rfl) (zKk _ _ _ _ _ hx.i0 hx.i1)]
  rw [zK7 (j := 0) (z := ⟨(2, x, y, s, i), r0, sgn 2 x y s r0 i, false⟩) (by simp [zDi, fnd]) rfl (by simp; exact hb)]
  rfl
theorem zV5 : XOk 0 0 1 3 := ⟨by decide, by decide, by decide, by decide, by decide, by decide, by decide, by decide⟩
theorem qok_0 : QOk r00 := ⟨by decide, by decide, by decide, by decide, by decide, by decide⟩
theorem qok_1 : QOk r11 := ⟨by decide, by decide, by decide, by decide, by decide, by decide⟩
theorem zU8 (n : Int) : zQi [] n = 0 ∧ zRp [] n = 161 := zFa (by rfl)
set_option maxRecDepth 10000 in
set_option maxHeartbeats 4000000 in
theorem proofAlive_any (w : World) (hT : Tab w) : Calls Tryz.prog 8 #[] w fun e w' => e = .returned (.bool true) ∧ Below w.heap.size w w' := by
  have HE := zLv w 0 0 1 3 (.slice none 0 0) (.slice none 0 0) (.slice none 0 0) (.slice none 0 0) r00 r11 (RT.nil _ _) (RT.nil _ _) (RT.nil _ _) (RT.nil _ _) (by decide) (by decide) hT
  rw [zRx zV5 r_ne] at HE
  have HE : Calls Tryz.prog 15 #[.agg #[.int .i64 0, .int .i64 0], .int .i64 1, .int .i64 3, .agg #[.int .i64 0, .int .i64 0, .slice none 0 0, .slice none 0 0], .agg #[.int .i64 1, .int .i64 1, .slice none 0 0, .slice none 0 0]] w fun e w' => ∃ v', e = .returned v' ∧ RL RMs 23 Any w' v' [evE 0 0 1 3 r00 r11] ∧ Below w.heap.size w w' := HE
  obtain ⟨hmE, hmB⟩ := mk_ev zV5 qok_0 qok_1 r_ne
  obtain ⟨hcW, hcE⟩ := chkW_ev zV5 qok_0 qok_1 r_ne 4
  rw [show (if (Bal.rgt 4 && decide ((3 : Int) < 4)) = true then (3 : Int) else 0) = 3 by rfl] at hcW
  rw [show (if (Bal.rgt 4 && decide ((3 : Int) < 4)) = true then (0 : Int) else 161) = 0 by rfl] at hcE
  generalize evE 0 0 1 3 r00 r11 = M at *
  go_enter Tryz.func8, Tryz.ntmps8
  go_upto_region 2 with (go_at_call 15; refine HE.mono ?_; rintro e w1 ⟨v1, rfl, h1, b1⟩)
  obtain ⟨yb, yo, yc, rfl, _, _, _, _, hya⟩ := h1.at (by simp)
  obtain ⟨ry, _, hrng, sy, rfl, hsy⟩ := hya 0 _ rfl
  have hrng : w1.rangeAt yb yo (mc M sy) := by simpa using hrng
  simp only [List.length_cons, List.length_nil, Nat.zero_add]
  have HMK := zP1 w1 M sy hsy (hT.below b1)
  unfold MkP at HMK
  rw [hmE, hmB] at HMK
  have HCK := (show Hid (∀ u v, Below w1.heap.size w1 u → RT Any u v (byM M) → Calls Tryz.prog 9 #[v, .int .i64 4] u fun e w' => e = .returned (.tuple #[.int .i64 3, .int .i64 0]) ∧ Below u.heap.size u w') from fun u v hu hv => by
    have := zGb u v (byM M) hv 4 ((hT.below b1).below hu)
    unfold CkP at this
    rw [hcW, hcE] at this
    exact this)
  have HCN := (show Hid (∀ u, Below w1.heap.size w1 u → Calls Tryz.prog 9 #[.slice none 0 0, .int .i64 4] u fun e w' => e = .returned (.tuple #[.int .i64 0, .int .i64 161]) ∧ Below u.heap.size u w') from fun u hu => by
    have := zGb u (.slice none 0 0) [] (RT.nil _ _) 4 ((hT.below b1).below hu)
    unfold CkP at this
    rw [(zU8 4).1, (zU8 4).2] at this
    exact this)
  clear HE h1 hya hmE hmB hcW hcE hsy hT
  go_upto_region 5 with (first
    | (refine wpList_load_mid rfl _ _ rfl yb yo rfl (mc M sy) _ hrng Tryz.underlying40 rfl (by kernel_rfl) ?_)
    | (go_at_call 12; refine HMK.mono ?_; rintro e w2 ⟨v2, rfl, t2, b2⟩))
  have HCK := HCK.out w2 v2 b2 t2
  clear HMK hrng t2
  go_upto_region 6 with (go_at_call 9; refine HCK.mono ?_; rintro e w3 ⟨rfl, b3⟩)
  have HCN := HCN.out w3 (zA1 b2 zN b3)
  clear HCK
  go_wp2_with (go_at_call 9; refine HCN.mono ?_; rintro e w4 ⟨rfl, b4⟩)
  go_ret
  exact ⟨rfl, zA1 (zA1 (zA1 b1 zN b2) zN b3) zN b4⟩
end
end Go.Proofs.YtgjepofinpmcpaaGreatDoor
