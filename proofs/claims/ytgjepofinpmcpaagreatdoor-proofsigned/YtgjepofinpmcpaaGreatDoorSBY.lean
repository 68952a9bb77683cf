/- catenarylaw16.ProofSigned: its walk. Written by mk17s.py. -/
import Derived.Test.YtgjepofinpmcpaaGreatDoorSBT
import Derived.Test.YtgjepofinpmcpaaGreatDoorSBU
import Derived.Test.YtgjepofinpmcpaaGreatDoorSBX
import Derived.Test.YtgjepofinpmcpaaGreatDoorSBQ
import Derived.Test.YtgjepofinpmcpaaGreatDoorSBG
import Derived.Deep.Cut
import Derived.Deep.RegionHeld3
import Derived.Deep.MidRow
set_option linter.unusedSimpArgs false
set_option linter.unusedVariables false
namespace Go.Proofs.YtgjepofinpmcpaaGreatDoor
section
open Go.RowKit Oct Kvl
theorem sgn_sz (k x y s : Int) (r : PReq) (i : Int) : szT (sgn k x y s r i) := by
  unfold szT sgn
  by_cases h : 0 ≤ repL i ∧ repL i ≤ 127
  · rw [signL_len _ _ h.1 h.2]; decide
  · rw [signL_no _ _ (by omega)]; decide
theorem rep_in {i : Int} (h0 : 0 ≤ i) (h1 : i ≤ 15) : repL i = i := by unfold repL; rw [if_pos ⟨h0, h1⟩]
theorem sgn_rgt (k x y s : Int) (r : PReq) {i : Int} (h0 : 0 ≤ i) (h1 : i ≤ 15) : rgtV k x y s r (i, sgn k x y s r i) = true := by
  unfold rgtV sgn
  exact verL_same _ _ (by rw [rep_in h0 h1]; omega) (by rw [rep_in h0 h1]; omega)
theorem note_one {ls : List PSn} {k x y s : Int} {r : PReq} {v : PVote} (hk : k = 2 ∨ k = 3) (hv : rgtV k x y s r v = true) : noteL ls k x y s r [v] = meetL ls (k, x, y, s, v.1) r v.2 := by
  unfold noteL noteV
  rw [if_pos hk]
  simp [stpL, hv]
theorem rl_onev {G : Nat → Prop} {w : World} {i : Int} {v : Value} {g : List Int} (h : RT G w v g) (hG : G w.heap.size) : RL RVote 2 G (w.alloc (.cells #[.int .i64 i, v] 58)) (.slice (some ⟨w.heap.size, 0, none⟩) 1 1) [(i, g)] := by
  refine ⟨[[.int .i64 i, v]], ⟨by simp, .inr ⟨w.heap.size, 0, 1, rfl, by simp, by unfold maxLen; decide, by simp, hG, by simp, ?_⟩⟩, ⟨⟨v, rfl, h.mv (Mv.belowG (below_alloc _ _))⟩, trivial⟩⟩
  intro q r hq
  have hR := Row.new w 58 [.int .i64 i, v]
  cases q with
  | zero =>
    simp at hq
    subst hq
    intro j u hj
    simpa using hR.cell hj
  | succ q => simp at hq
/-- What Note answers, seen from an earlier world. -/
theorem note1_any (w : World) (b m : Nat) (ls : List PSn) (h : Lg (NM m) w b m ls) (k x y s i : Int) (rc : List Value) (r : PReq) (hrq : RReq (NM m) w rc r) (hr : tot [r.2.2.1, r.2.2.2] ≤ 2000000) (v : Value) (g : List Int) (hv : RT (NM m) w v g) (hg : szT g) (hT : Tab w) :
    Calls Tryz.prog 33 #[.pointer (some ⟨b, 0, none⟩), .int .i64 k, .agg #[.int .i64 x, .int .i64 y], .int .i64 s, .agg rc.toArray, .slice (some ⟨w.heap.size, 0, none⟩) 1 1] (w.alloc (.cells #[.int .i64 i, v] 58)) fun e w' => NtP w b m (noteL ls k x y s r [(i, g)]) e w' := by
  have B := below_alloc w (.cells #[.int .i64 i, v] 58)
  refine (noteG_any _ b m ls (h.below B) k x y s rc r (mov_req _ _ _ _ _ _ hrq B.size (Mv.belowG B)) hr _ [(i, g)] (rl_onev hv (fun e => by have := h.lt.2; omega)) (by simpa using hg) (by simp) (hT.below B)).mono ?_
  rintro e w' ⟨v', e1, e2, e3, e4⟩
  exact ⟨v', e1, e2.mv mov_ms (Nat.le_refl _) (Mv.weak B.size), e3, grown_trans (grown_of_below B _) e4 (.inl rfl)⟩
def r00 : PReq := (0, 0, [], [])
def r11 : PReq := (1, 1, [], [])
theorem r_ne : ¬ (body r00 = body r11) := by decide
theorem toNM {m B : Nat} {w : World} (hm : m < B) : Mv (From B) (NM m) w w := fun k hk _ => ⟨rfl, fun e => by unfold From at hk; omega⟩
end
section
open Go.RowKit Oct Kvl
theorem below_drewE (w : World) : Below w.heap.size w w.drew := ⟨rfl, rfl, rfl, Nat.le_refl _, fun _ _ => rfl⟩
theorem toNMe {m : Nat} {w : World} (h : w.heap.size ≤ m) : Mv Any (NM m) w w := fun k _ hlt => ⟨rfl, fun e => by omega⟩
def lsE (x y s i : Int) (r0 : PReq) : List PSn := (noteL [] 2 x y s r0 [(i, sgn 2 x y s r0 i)]).1
def evsL (x y s i : Int) (r0 r1 : PReq) : List PMsg := (noteL (lsE x y s i r0) 2 x y s r1 [(i, sgn 2 x y s r1 i)]).2
set_option maxRecDepth 10000 in
set_option maxHeartbeats 4000000 in
theorem evidence_any (w : World) (x y s i : Int) (o0 p0 o1 p1 : Value) (r0 r1 : PReq) (t0 : RT Any w o0 r0.2.2.1) (u0 : RT Any w p0 r0.2.2.2) (t1 : RT Any w o1 r1.2.2.1) (u1 : RT Any w p1 r1.2.2.2) (z0 : tot [r0.2.2.1, r0.2.2.2] ≤ 2000000) (z1 : tot [r1.2.2.1, r1.2.2.2] ≤ 2000000) (hT : Tab w) :
    Calls Tryz.prog 15 #[.agg #[.int .i64 x, .int .i64 y], .int .i64 s, .int .i64 i, .agg #[.int .i64 r0.1, .int .i64 r0.2.1, o0, p0], .agg #[.int .i64 r1.1, .int .i64 r1.2.1, o1, p1]] w fun e w' => ∃ v', e = .returned v' ∧ RL RMs 23 Any w' v' (evsL x y s i r0 r1) ∧ Below w.heap.size w w' := by
  obtain ⟨ao0, co0, rfl, _⟩ := t0.form
  obtain ⟨ap0, cp0, rfl, _⟩ := u0.form
  obtain ⟨ao1, co1, rfl, _⟩ := t1.form
  obtain ⟨ap1, cp1, rfl, _⟩ := u1.form
  obtain ⟨w1, hw1⟩ : ∃ w1, w1 = w.alloc (.cells #[.int .i64 x, .int .i64 y] 32) := ⟨_, rfl⟩
  obtain ⟨w2, hw2⟩ : ∃ w2, w2 = w1.alloc (.cells #[.int .i64 r0.1, .int .i64 r0.2.1, .slice ao0 r0.2.2.1.length co0, .slice ap0 r0.2.2.2.length cp0] 34) := ⟨_, rfl⟩
  obtain ⟨w3, hw3⟩ : ∃ w3, w3 = w2.alloc (.cells #[.int .i64 r1.1, .int .i64 r1.2.1, .slice ao1 r1.2.2.1.length co1, .slice ap1 r1.2.2.2.length cp1] 34) := ⟨_, rfl⟩
  have e1 : w1.heap.size = w.heap.size + 1 := by rw [hw1]; simp
  have e2 : w2.heap.size = w.heap.size + 2 := by rw [hw2]; simp [e1]
  have B1 : Below w.heap.size w w1 := by rw [hw1]; exact below_alloc _ _
  have B2 : Below w1.heap.size w1 w2 := by rw [hw2]; exact below_alloc _ _
  have B3 : Below w2.heap.size w2 w3 := by rw [hw3]; exact below_alloc _ _
  have rB : Row w1 w.heap.size 32 [.int .i64 x, .int .i64 y] := by rw [hw1]; exact Row.new _ _ _
  have rR0 : Row w2 (w.heap.size + 1) 34 [.int .i64 r0.1, .int .i64 r0.2.1, .slice ao0 r0.2.2.1.length co0, .slice ap0 r0.2.2.2.length cp0] := by rw [hw2, ← e1]; exact Row.new _ _ _
  have rR1 : Row w3 (w.heap.size + 2) 34 [.int .i64 r1.1, .int .i64 r1.2.1, .slice ao1 r1.2.2.1.length co1, .slice ap1 r1.2.2.2.length cp1] := by rw [hw3, ← e2]; exact Row.new _ _ _
  have rB := (rB.below B2).below B3
  have rR0 := rR0.below B3
  have B : Below w.heap.size w w3 := below_and (below_and B1 (Nat.le_refl _) B2) (Nat.le_refl _) B3
  have hw : w3 = ((w.alloc (.cells #[.int .i64 x, .int .i64 y] 32)).alloc (.cells #[.int .i64 r0.1, .int .i64 r0.2.1, .slice ao0 r0.2.2.1.length co0, .slice ap0 r0.2.2.2.length cp0] 34)).alloc (.cells #[.int .i64 r1.1, .int .i64 r1.2.1, .slice ao1 r1.2.2.1.length co1, .slice ap1 r1.2.2.2.length cp1] 34) := by rw [hw3, hw2, hw1]
  clear hw1 hw2 hw3 e1 e2 B1 B2 B3
  go_enter Tryz.func15, Tryz.ntmps15
  go_upto_region 1 with fail
  rw [← hw]
  clear hw
  simp only [show w.heap.size + 1 + 1 = w.heap.size + 2 from rfl]
  obtain ⟨cB, hcB⟩ : ∃ c, c = w.heap.size := ⟨_, rfl⟩
  obtain ⟨cR0, hcR0⟩ : ∃ c, c = w.heap.size + 1 := ⟨_, rfl⟩
  obtain ⟨cR1, hcR1⟩ : ∃ c, c = w.heap.size + 2 := ⟨_, rfl⟩
  rw [← hcR0] at rR0 ⊢
  rw [← hcR1] at rR1 ⊢
  rw [← hcB] at rB ⊢
  clear hcB hcR0 hcR1
  have hNW := newG_any w3
  go_upto_region 4 with (go_at_call 32; refine hNW.mono ?_; rintro e w4 ⟨rfl, l4, b4⟩)
  have hm5 : w.heap.size ≤ w3.heap.size := B.size
  have BW := below_and B (Nat.le_refl _) b4
  have rB := rB.below b4
  have rR0 := rR0.below b4
  have rR1 := rR1.below b4
  have t0 := ((t0.mv (Mv.below B)).mv (toNMe (Nat.le_refl _))).mv (Mv.belowG b4)
  have u0 := ((u0.mv (Mv.below B)).mv (toNMe (Nat.le_refl _))).mv (Mv.belowG b4)
  have t1 := ((t1.mv (Mv.below B)).mv (toNMe (Nat.le_refl _))).mv (Mv.belowG b4)
  have u1 := ((u1.mv (Mv.below B)).mv (toNMe (Nat.le_refl _))).mv (Mv.belowG b4)
  have hT4 := (hT.below B).below b4
  clear hNW B b4 hT
  generalize hm : w3.heap.size = m at *
  generalize hb : m + 1 = b at *
  clear hm hb
  have hmB := l4.nrow rB
  have hmR0 := l4.nrow rR0
  have hmR1 := l4.nrow rR1
  have SK0 := (show Hid (∀ u, w4.grownBy u (some m) → u.cell? ⟨cB, 0, none⟩ = some (.int .i64 x) ∧ u.cell? ⟨cB, 1, none⟩ = some (.int .i64 y) ∧ u.cell? ⟨cR0, 0, none⟩ = some (.int .i64 r0.1) ∧ u.cell? ⟨cR0, 1, none⟩ = some (.int .i64 r0.2.1) ∧ u.cell? ⟨cR0, 2, none⟩ = some (.slice ao0 r0.2.2.1.length co0) ∧ u.cell? ⟨cR0, 3, none⟩ = some (.slice ap0 r0.2.2.2.length cp0)) from fun u hu => ⟨(rB.grown hu hmB).cell (j := 0) rfl, (rB.grown hu hmB).cell (j := 1) rfl, (rR0.grown hu hmR0).cell (j := 0) rfl, (rR0.grown hu hmR0).cell (j := 1) rfl, (rR0.grown hu hmR0).cell (j := 2) rfl, (rR0.grown hu hmR0).cell (j := 3) rfl⟩)
  obtain ⟨q0, q1, q2, q3, q4, q5⟩ := SK0.out w4 (grown_of_below (Below.refl _ _) _)
  have hd0 := below_drewE w4
  have gd0 : w4.grownBy w4.drew (some m) := grown_of_below hd0 _
  have HB0 := (show Hid (∀ _ : Unit, _) from fun _ => body_any w4.drew [.int .i64 r0.1, .int .i64 r0.2.1, .slice ao0 r0.2.2.1.length co0, .slice ap0 r0.2.2.2.length cp0] r0 ⟨_, _, rfl, (t0.mv (Mv.belowG hd0)).mv Mv.any, (u0.mv (Mv.belowG hd0)).mv Mv.any⟩ (Nat.le_trans z0 (by decide)))
  have hbb0 : Byt (body r0) := body_byt t0.1.1 u0.1.1 z0
  have HBL0 := (show Hid ((body r0).length ≤ 3000000) from body_len z0)
  go_wp2_with fail
  go_region_held3 (fun u => u.cell? ⟨cB, 0, none⟩ = some (.int .i64 x) ∧ u.cell? ⟨cB, 1, none⟩ = some (.int .i64 y) ∧ u.cell? ⟨cR0, 0, none⟩ = some (.int .i64 r0.1) ∧ u.cell? ⟨cR0, 1, none⟩ = some (.int .i64 r0.2.1) ∧ u.cell? ⟨cR0, 2, none⟩ = some (.slice ao0 r0.2.2.1.length co0) ∧ u.cell? ⟨cR0, 3, none⟩ = some (.slice ap0 r0.2.2.2.length cp0))
    (first | exact SK0.out _ gx0 | exact SK0.out _ gb0 | exact SK0.out _ ga0 | exact SK0.out _ gc0 | exact SK0.out _ gd0 | go_keep)
    (first
      | (go_at_call 33; refine hN0.mono ?_; rintro e wx0 ⟨vx0, rfl, ex0, lx0, gx'0⟩; have gx0 : w4.grownBy wx0 (some m) := grown_trans ga0 gx'0 (.inl rfl); obtain ⟨ax0, cx0, rfl, _⟩ := ex0.form)
      | (go_at_call 20; refine (vMake_any wc0 2 x y s i vc0 (body r0) (oc0.rd hbb0) HBL0.out (hT4.below bc0)).mono ?_; rintro e wa0 ⟨va0, rfl, fa'0, ba0⟩; have fa0 : RT (From wc0.heap.size) wa0 va0 (sgn 2 x y s r0 i) := fa'0; obtain ⟨aa0, ca0, rfl, _⟩ := fa0.form; have bb0 : Below w4.heap.size w4 wa0 := below_and bc0 (Nat.le_refl _) ba0; have ga0 : w4.grownBy wa0 (some m) := grown_of_below bb0 _; have gb0 : w4.grownBy (wa0.alloc (.cells #[.int .i64 i, .slice aa0 (sgn 2 x y s r0 i).length ca0] 58)) (some m) := grown_trans ga0 (grown_of_below (below_alloc _ _) _) (.inl rfl); have hN0 := note1_any wa0 b m [] (l4.below bb0) 2 x y s i [.int .i64 r0.1, .int .i64 r0.2.1, .slice ao0 r0.2.2.1.length co0, .slice ap0 r0.2.2.2.length cp0] r0 ⟨_, _, rfl, t0.mv (Mv.belowG bb0), u0.mv (Mv.belowG bb0)⟩ z0 _ _ (fa0.mv (toNM (l4.below bc0).lt.2)) (sgn_sz _ _ _ _ _ _) (hT4.below bb0))
      | (go_at_call 21; refine (HB0.out ()).mono ?_; rintro e wc0 ⟨vc0, rfl, oc0, fc0, bc'0⟩; have bc0 : Below w4.heap.size w4 wc0 := hd0.trans bc'0; have gc0 : w4.grownBy wc0 (some m) := grown_of_below bc0 _))
  have hmv : Mv (NM m) (NM m) w4 wx0 := Mv.nm (fun k hk => hk) gx0
  have rB := rB.grown gx0 hmB
  have rR1 := rR1.grown gx0 hmR1
  have t1 := t1.mv hmv
  have u1 := u1.mv hmv
  have hT5 := hT4.grown gx0 (l4.ntab hT4)
  have BX := BW.trans (grown_below gx0 (Nat.le_trans hm5 (Nat.le_of_lt l4.lt.2)) (fun q hq => by have := Option.some.inj hq; omega))
  have l5 : Lg (NM m) wx0 b m (lsE x y s i r0) := lx0
  clear SK0 HB0 hN0 q0 q1 q2 q3 q4 q5 gd0 hd0 ga0 gb0 gc0 fa0 fa'0 ba0 bb0 gx'0 ex0 lx0 hmv hT4 BW l4 t0 u0 rR0 hmR0 HBL0 hbb0 oc0 fc0 bc0 bc'0 gx0
  generalize hLS : lsE x y s i r0 = LS at *
  have HLS := (show Hid (lsE x y s i r0 = LS) from hLS)
  clear hLS
  have SK1 := (show Hid (∀ u, wx0.grownBy u (some m) → u.cell? ⟨cB, 0, none⟩ = some (.int .i64 x) ∧ u.cell? ⟨cB, 1, none⟩ = some (.int .i64 y) ∧ u.cell? ⟨cR1, 0, none⟩ = some (.int .i64 r1.1) ∧ u.cell? ⟨cR1, 1, none⟩ = some (.int .i64 r1.2.1) ∧ u.cell? ⟨cR1, 2, none⟩ = some (.slice ao1 r1.2.2.1.length co1) ∧ u.cell? ⟨cR1, 3, none⟩ = some (.slice ap1 r1.2.2.2.length cp1)) from fun u hu => ⟨(rB.grown hu hmB).cell (j := 0) rfl, (rB.grown hu hmB).cell (j := 1) rfl, (rR1.grown hu hmR1).cell (j := 0) rfl, (rR1.grown hu hmR1).cell (j := 1) rfl, (rR1.grown hu hmR1).cell (j := 2) rfl, (rR1.grown hu hmR1).cell (j := 3) rfl⟩)
  obtain ⟨q0, q1, q2, q3, q4, q5⟩ := SK1.out wx0 (grown_of_below (Below.refl _ _) _)
  have hd1 := below_drewE wx0
  have gd1 : wx0.grownBy wx0.drew (some m) := grown_of_below hd1 _
  have HB1 := (show Hid (∀ _ : Unit, _) from fun _ => body_any wx0.drew [.int .i64 r1.1, .int .i64 r1.2.1, .slice ao1 r1.2.2.1.length co1, .slice ap1 r1.2.2.2.length cp1] r1 ⟨_, _, rfl, (t1.mv (Mv.belowG hd1)).mv Mv.any, (u1.mv (Mv.belowG hd1)).mv Mv.any⟩ (Nat.le_trans z1 (by decide)))
  have hbb1 : Byt (body r1) := body_byt t1.1.1 u1.1.1 z1
  have HBL1 := (show Hid ((body r1).length ≤ 3000000) from body_len z1)
  go_wp2_with fail
  go_region_held3 (fun u => u.cell? ⟨cB, 0, none⟩ = some (.int .i64 x) ∧ u.cell? ⟨cB, 1, none⟩ = some (.int .i64 y) ∧ u.cell? ⟨cR1, 0, none⟩ = some (.int .i64 r1.1) ∧ u.cell? ⟨cR1, 1, none⟩ = some (.int .i64 r1.2.1) ∧ u.cell? ⟨cR1, 2, none⟩ = some (.slice ao1 r1.2.2.1.length co1) ∧ u.cell? ⟨cR1, 3, none⟩ = some (.slice ap1 r1.2.2.2.length cp1))
    (first | exact SK1.out _ gx1 | exact SK1.out _ gb1 | exact SK1.out _ ga1 | exact SK1.out _ gc1 | exact SK1.out _ gd1 | go_keep)
    (first
      | (go_at_call 33; refine hN1.mono ?_; rintro e wx1 ⟨vx1, rfl, ex1, lx1, gx'1⟩; have gx1 : wx0.grownBy wx1 (some m) := grown_trans ga1 gx'1 (.inl rfl); obtain ⟨ax1, cx1, rfl, _⟩ := ex1.form)
      | (go_at_call 20; refine (vMake_any wc1 2 x y s i vc1 (body r1) (oc1.rd hbb1) HBL1.out (hT5.below bc1)).mono ?_; rintro e wa1 ⟨va1, rfl, fa'1, ba1⟩; have fa1 : RT (From wc1.heap.size) wa1 va1 (sgn 2 x y s r1 i) := fa'1; obtain ⟨aa1, ca1, rfl, _⟩ := fa1.form; have bb1 : Below wx0.heap.size wx0 wa1 := below_and bc1 (Nat.le_refl _) ba1; have ga1 : wx0.grownBy wa1 (some m) := grown_of_below bb1 _; have gb1 : wx0.grownBy (wa1.alloc (.cells #[.int .i64 i, .slice aa1 (sgn 2 x y s r1 i).length ca1] 58)) (some m) := grown_trans ga1 (grown_of_below (below_alloc _ _) _) (.inl rfl); have hN1 := note1_any wa1 b m LS (l5.below bb1) 2 x y s i [.int .i64 r1.1, .int .i64 r1.2.1, .slice ao1 r1.2.2.1.length co1, .slice ap1 r1.2.2.2.length cp1] r1 ⟨_, _, rfl, t1.mv (Mv.belowG bb1), u1.mv (Mv.belowG bb1)⟩ z1 _ _ (fa1.mv (toNM (l5.below bc1).lt.2)) (sgn_sz _ _ _ _ _ _) (hT5.below bb1))
      | (go_at_call 21; refine (HB1.out ()).mono ?_; rintro e wc1 ⟨vc1, rfl, oc1, fc1, bc'1⟩; have bc1 : Below wx0.heap.size wx0 wc1 := hd1.trans bc'1; have gc1 : wx0.grownBy wc1 (some m) := grown_of_below bc1 _))
  have BY := BX.trans (grown_below gx1 (Nat.le_trans hm5 (Nat.le_of_lt l5.lt.2)) (fun q hq => by have := Option.some.inj hq; omega))
  have hE : RL RMs 23 Any wx1 _ (noteL LS 2 x y s r1 [(i, sgn 2 x y s r1 i)]).2 := ex1.mv mov_ms (Nat.le_refl _) Mv.any
  have hV : evsL x y s i r0 r1 = (noteL LS 2 x y s r1 [(i, sgn 2 x y s r1 i)]).2 := by unfold evsL; rw [HLS.out]
  go_wp2_with fail
  go_ret
  exact ⟨_, rfl, by rw [hV]; exact hE, BY⟩
end
section
open Go.RowKit Oct Kvl
/-- A request that can be written. -/
structure QOk (r : PReq) : Prop where
  c0 : 0 ≤ r.1
  c1 : r.1 ≤ 2147483647
  s0 : 0 ≤ r.2.1
  s1 : r.2.1 ≤ 2147483647
  o : r.2.2.1.length ≤ 65536
  g : r.2.2.2.length ≤ 65536
theorem QOk.tot {r : PReq} (h : QOk r) : tot [r.2.2.1, r.2.2.2] ≤ 2000000 := by
  have := h.o
  have := h.g
  simp only [Oct.tot]
  omega
/-- Places that can be written. -/
structure XOk (x y s i : Int) : Prop where
  x0 : 0 ≤ x
  x1 : x ≤ 2147483647
  y0 : 0 ≤ y
  y1 : y ≤ 2147483647
  s0 : 0 ≤ s
  s1 : s ≤ 2147483647
  i0 : 0 ≤ i
  i1 : i ≤ 15
theorem sgn_len {k x y s : Int} {r : PReq} {i : Int} (h0 : 0 ≤ i) (h1 : i ≤ 15) : (sgn k x y s r i).length = 32 := by
  unfold sgn
  rw [signL_len _ _ (by rw [rep_in h0 h1]; omega) (by rw [rep_in h0 h1]; omega)]
theorem outI_5 {n : Int} (h0 : 0 ≤ n) (h1 : n ≤ 2147483647) : (outI n).length ≤ 5 := by rw [outI_yes h0 h1]; exact enc_len5 n h0 h1
theorem req_ok {r : PReq} (h : QOk r) : cReq.ok r = true ∧ (cReq.wr r).length ≤ 140000 := by
  have a := okI_yes h.c0 h.c1
  have b := okI_yes h.s0 h.s1
  have p := outI_5 h.c0 h.c1
  have q := outI_5 h.s0 h.s1
  have e1 := enc_len r.2.2.1.length
  have e2 := enc_len r.2.2.2.length
  have := h.o
  have := h.g
  refine ⟨?_, ?_⟩
  · simp [cReq, cP, cN, cT, a, b]
    omega
  · simp only [cReq, cP, cN, cT, List.length_append]
    omega
theorem ev0_good {x y s i : Int} {ra rb : PReq} {ga gb : List Int} (hx : XOk x y s i) (ha : QOk ra) (hb : QOk rb) (la : ga.length = 32) (lb : gb.length = 32) :
    badM (ev0 (2, x, y, s, i) ra ga rb gb) = false ∧ (byM (ev0 (2, x, y, s, i) ra ga rb gb)).length ≤ 1048576 := by
  obtain ⟨a1, a2⟩ := req_ok ha
  obtain ⟨b1, b2⟩ := req_ok hb
  refine ⟨badM_of (show fl 13 ≠ [] by decide) ?_ ?_, ?_⟩
  · intro j hj hn
    have hn : j ∉ [0, 1, 2, 4, 6, 7, 8, 9] := hn
    rcases lt15 hj with rfl | rfl | rfl | rfl | rfl | rfl | rfl | rfl | rfl | rfl | rfl | rfl | rfl | rfl | rfl <;> first | rfl | exact absurd (by decide) hn
  · intro j hj
    have hj : j ∈ [0, 1, 2, 4, 6, 7, 8, 9] := hj
    simp only [List.mem_cons, List.not_mem_nil, or_false] at hj
    rcases hj with rfl | rfl | rfl | rfl | rfl | rfl | rfl | rfl
    · show (okI x && okI y) = true
      rw [okI_yes hx.x0 hx.x1, okI_yes hx.y0 hx.y1]; rfl
    · exact okI_yes hx.s0 hx.s1
    · exact okI_yes (n := i) hx.i0 (by have := hx.i1; omega)
    · exact okI_yes (n := 2) (by decide) (by decide)
    · exact a1
    · exact b1
    · show decide (gb.length ≤ 65536) = true
      rw [lb]; rfl
    · show decide (ga.length ≤ 65536) = true
      rw [la]; rfl
  · have e : byM (ev0 (2, x, y, s, i) ra ga rb gb) = outI 13 ++ ((outI x ++ outI y) ++ (outI s ++ (outI i ++ (outI 2 ++ (cReq.wr ra ++ (cReq.wr rb ++ ((enc gb.length ++ gb) ++ ((enc ga.length ++ ga) ++ [])))))))) := rfl
    rw [e]
    have p0 := outI_5 (n := 13) (by decide) (by decide)
    have p1 := outI_5 hx.x0 hx.x1
    have p2 := outI_5 hx.y0 hx.y1
    have p3 := outI_5 hx.s0 hx.s1
    have p4 := outI_5 hx.i0 (by have := hx.i1; omega)
    have p5 := outI_5 (n := 2) (by decide) (by decide)
    have p6 := enc_len gb.length
    have p7 := enc_len ga.length
    simp only [List.length_append, List.length_nil]
    omega
theorem ev0_shw {x y s i : Int} {ra rb : PReq} (hx : XOk x y s i) (hc : cmpL (body ra) (body rb) < 0) : shw (ev0 (2, x, y, s, i) ra (sgn 2 x y s ra i) rb (sgn 2 x y s rb i)) = true := by
  have h1 : rgtV 2 x y s ra (i, sgn 2 x y s ra i) = true := sgn_rgt 2 x y s ra hx.i0 hx.i1
  have h2 : rgtV 2 x y s rb (i, sgn 2 x y s rb i) = true := sgn_rgt 2 x y s rb hx.i0 hx.i1
  show (decide (cmpL (body ra) (body rb) < 0) && rgtV 2 x y s ra (i, sgn 2 x y s ra i) && rgtV 2 x y s rb (i, sgn 2 x y s rb i)) = true
  rw [h1, h2, decide_eq_true hc]
  rfl
/-- The evidence of two votes. -/
def evE (x y s i : Int) (r0 r1 : PReq) : PMsg := evL (2, x, y, s, i) r0 (sgn 2 x y s r0 i) r1 (sgn 2 x y s r1 i)
theorem evE_good {x y s i : Int} {r0 r1 : PReq} (hx : XOk x y s i) (h0 : QOk r0) (h1 : QOk r1) (hn : body r0 ≠ body r1) :
    badM (evE x y s i r0 r1) = false ∧ (byM (evE x y s i r0 r1)).length ≤ 1048576 ∧ shw (evE x y s i r0 r1) = true := by
  unfold evE evL
  by_cases hc : 0 < cmpL (body r0) (body r1)
  · rw [if_pos hc]
    obtain ⟨a, b⟩ := ev0_good hx h1 h0 (sgn_len (k := 2) (x := x) (y := y) (s := s) (r := r1) hx.i0 hx.i1) (sgn_len (k := 2) (x := x) (y := y) (s := s) (r := r0) hx.i0 hx.i1)
    exact ⟨a, b, ev0_shw hx (by rw [cmp_neg]; omega)⟩
  · rw [if_neg hc]
    obtain ⟨a, b⟩ := ev0_good hx h0 h1 (sgn_len (k := 2) (x := x) (y := y) (s := s) (r := r0) hx.i0 hx.i1) (sgn_len (k := 2) (x := x) (y := y) (s := s) (r := r1) hx.i0 hx.i1)
    refine ⟨a, b, ev0_shw hx ?_⟩
    have : cmpL (body r0) (body r1) ≠ 0 := fun e => hn (cmp_zero.1 e)
    omega
theorem evE_frm (x y s i : Int) (r0 r1 : PReq) : (evE x y s i r0 r1).kind = 13 ∧ (evE x y s i r0 r1).frm = i ∧ (evE x y s i r0 r1).idx = 2 := by
  unfold evE evL ev0
  split <;> exact ⟨rfl, rfl, rfl⟩
theorem may_ev (x y s i : Int) (r0 r1 : PReq) (hi : 0 ≤ i) (n : Int) : may (evE x y s i r0 r1) n = (Bal.rgt n && decide (i < n)) := by
  obtain ⟨a, b, c⟩ := evE_frm x y s i r0 r1
  unfold may
  rw [a, b, c]
  simp [hi]
theorem dec_by {m : PMsg} (h : badM m = false) (hl : (byM m).length ≤ 1048576) : decE (byM m) = 0 ∧ decM (byM m) = m := by
  unfold decE decM
  have h' : ¬ 1048576 < (byM m).length := by omega
  rw [if_neg h', if_neg h', rdM_fwd h]
  exact ⟨rfl, rfl⟩
theorem chk_ev {x y s i : Int} {r0 r1 : PReq} (hx : XOk x y s i) (h0 : QOk r0) (h1 : QOk r1) (hn : body r0 ≠ body r1) (n : Int) :
    chkL (byM (evE x y s i r0 r1)) n = (Bal.rgt n && decide (i < n)) := by
  obtain ⟨a, b, c⟩ := evE_good hx h0 h1 hn
  obtain ⟨d, e⟩ := dec_by a b
  unfold chkL
  rw [d, e, c, may_ev _ _ _ _ _ _ hx.i0]
  simp
/-- Make takes it. -/
theorem mk_ev {x y s i : Int} {r0 r1 : PReq} (hx : XOk x y s i) (h0 : QOk r0) (h1 : QOk r1) (hn : body r0 ≠ body r1) :
    mkE (evE x y s i r0 r1) = 0 ∧ mkB (evE x y s i r0 r1) = byM (evE x y s i r0 r1) := by
  obtain ⟨a, b, c⟩ := evE_good hx h0 h1 hn
  have hE : encE (evE x y s i r0 r1) = 0 := by unfold encE; rw [if_neg (by rw [a]; decide), if_neg (by omega)]
  have hB : encB (evE x y s i r0 r1) = byM (evE x y s i r0 r1) := by unfold encB; rw [if_pos hE]
  have hm : mkL (evE x y s i r0 r1) = true := by
    unfold mkL
    rw [hE, hB, chk_ev hx h0 h1 hn]
    have := hx.i1
    simp [Bal.rgt]
    omega
  obtain ⟨p, q⟩ := mk_yes hm
  exact ⟨q, by rw [p, hB]⟩
theorem chkW_ev {x y s i : Int} {r0 r1 : PReq} (hx : XOk x y s i) (h0 : QOk r0) (h1 : QOk r1) (hn : body r0 ≠ body r1) (n : Int) :
    chkW (byM (evE x y s i r0 r1)) n = (if (Bal.rgt n && decide (i < n)) = true then i else 0) ∧ chkE (byM (evE x y s i r0 r1)) n = (if (Bal.rgt n && decide (i < n)) = true then 0 else 161) := by
  obtain ⟨a, b, c⟩ := evE_good hx h0 h1 hn
  obtain ⟨d, e⟩ := dec_by a b
  unfold chkW chkE
  rw [chk_ev hx h0 h1 hn, e, (evE_frm x y s i r0 r1).2.1]
  exact ⟨rfl, rfl⟩
theorem evs_other {x y s i : Int} {r0 r1 : PReq} (hx : XOk x y s i) (hb : body r0 ≠ body r1) : evsL x y s i r0 r1 = [evE x y s i r0 r1] := by
  have e : lsE x y s i r0 = [⟨(2, x, y, s, i), r0, sgn 2 x y s r0 i, false⟩] := by
    unfold lsE
    rw [note_one (.inl rfl) (sgn_rgt _ _ _ _ _ hx.i0 hx.i1)]
    rfl
  unfold evsL
  rw [e, note_one (.inl rfl) (sgn_rgt _ _ _ _ _ hx.i0 hx.i1)]
  rw [meet_new (j := 0) (z := ⟨(2, x, y, s, i), r0, sgn 2 x y s r0 i, false⟩) (by simp [keysL, fnd]) rfl (by simp; exact hb)]
  rfl
theorem xok_al : XOk 0 0 1 3 := ⟨by decide, by decide, by decide, by decide, by decide, by decide, by decide, by decide⟩
theorem qok_0 : QOk r00 := ⟨by decide, by decide, by decide, by decide, by decide, by decide⟩
theorem qok_1 : QOk r11 := ⟨by decide, by decide, by decide, by decide, by decide, by decide⟩
theorem chk_nil (n : Int) : chkW [] n = 0 ∧ chkE [] n = 161 := chk_no (by rfl)
set_option maxRecDepth 10000 in
set_option maxHeartbeats 4000000 in
theorem proofAlive_any (w : World) (hT : Tab w) : Calls Tryz.prog 8 #[] w fun e w' => e = .returned (.bool true) ∧ Below w.heap.size w w' := by
  have HE := evidence_any w 0 0 1 3 (.slice none 0 0) (.slice none 0 0) (.slice none 0 0) (.slice none 0 0) r00 r11 (RT.nil _ _) (RT.nil _ _) (RT.nil _ _) (RT.nil _ _) (by decide) (by decide) hT
  rw [evs_other xok_al r_ne] at HE
  have HE : Calls Tryz.prog 15 #[.agg #[.int .i64 0, .int .i64 0], .int .i64 1, .int .i64 3, .agg #[.int .i64 0, .int .i64 0, .slice none 0 0, .slice none 0 0], .agg #[.int .i64 1, .int .i64 1, .slice none 0 0, .slice none 0 0]] w fun e w' => ∃ v', e = .returned v' ∧ RL RMs 23 Any w' v' [evE 0 0 1 3 r00 r11] ∧ Below w.heap.size w w' := HE
  obtain ⟨hmE, hmB⟩ := mk_ev xok_al qok_0 qok_1 r_ne
  obtain ⟨hcW, hcE⟩ := chkW_ev xok_al qok_0 qok_1 r_ne 4
  rw [show (if (Bal.rgt 4 && decide ((3 : Int) < 4)) = true then (3 : Int) else 0) = 3 by rfl] at hcW
  rw [show (if (Bal.rgt 4 && decide ((3 : Int) < 4)) = true then (0 : Int) else 161) = 0 by rfl] at hcE
  generalize evE 0 0 1 3 r00 r11 = M at *
  go_enter Tryz.func8, Tryz.ntmps8
  go_upto_region 2 with (go_at_call 15; refine HE.mono ?_; rintro e w1 ⟨v1, rfl, h1, b1⟩)
  obtain ⟨yb, yo, yc, rfl, _, _, _, _, hya⟩ := h1.at (by simp)
  obtain ⟨ry, _, hrng, sy, rfl, hsy⟩ := hya 0 _ rfl
  have hrng : w1.rangeAt yb yo (mc M sy) := by simpa using hrng
  simp only [List.length_cons, List.length_nil, Nat.zero_add]
  have HMK := make_any w1 M sy hsy (hT.below b1)
  unfold MkP at HMK
  rw [hmE, hmB] at HMK
  have HCK := (show Hid (∀ u v, Below w1.heap.size w1 u → RT Any u v (byM M) → Calls Tryz.prog 9 #[v, .int .i64 4] u fun e w' => e = .returned (.tuple #[.int .i64 3, .int .i64 0]) ∧ Below u.heap.size u w') from fun u v hu hv => by
    have := check_any u v (byM M) hv 4 ((hT.below b1).below hu)
    unfold CkP at this
    rw [hcW, hcE] at this
    exact this)
  have HCN := (show Hid (∀ u, Below w1.heap.size w1 u → Calls Tryz.prog 9 #[.slice none 0 0, .int .i64 4] u fun e w' => e = .returned (.tuple #[.int .i64 0, .int .i64 161]) ∧ Below u.heap.size u w') from fun u hu => by
    have := check_any u (.slice none 0 0) [] (RT.nil _ _) 4 ((hT.below b1).below hu)
    unfold CkP at this
    rw [(chk_nil 4).1, (chk_nil 4).2] at this
    exact this)
  clear HE h1 hya hmE hmB hcW hcE hsy hT
  go_upto_region 5 with (first
    | (refine wpList_load_mid rfl _ _ rfl yb yo rfl (mc M sy) _ hrng Tryz.underlying40 rfl (by kernel_rfl) ?_)
    | (go_at_call 12; refine HMK.mono ?_; rintro e w2 ⟨v2, rfl, t2, b2⟩))
  have HCK := HCK.out w2 v2 b2 t2
  clear HMK hrng t2
  go_upto_region 6 with (go_at_call 9; refine HCK.mono ?_; rintro e w3 ⟨rfl, b3⟩)
  have HCN := HCN.out w3 (below_and b2 (Nat.le_refl _) b3)
  clear HCK
  go_wp2_with (go_at_call 9; refine HCN.mono ?_; rintro e w4 ⟨rfl, b4⟩)
  go_ret
  exact ⟨rfl, below_and (below_and (below_and b1 (Nat.le_refl _) b2) (Nat.le_refl _) b3) (Nat.le_refl _) b4⟩
end
section
open Go.RowKit Oct Kvl
theorem vtd_sgn {m : PMsg} {r : PReq} {g : List Int} (h : vtd m r g = true) : g = sgn m.idx m.bal.1 m.bal.2 m.slot r m.frm := by
  unfold vtd rgtV verL at h
  split at h
  · exact of_decide_eq_true h
  · cases h
/-- What is accepted is signed. -/
theorem chk_signed {l : List Int} {n : Int} (h : chkL l n = true) : decE l = 0 ∧ (decM l).frm < n ∧ (decM l).sig = sgn (decM l).idx (decM l).bal.1 (decM l).bal.2 (decM l).slot (decM l).req (decM l).frm ∧ (decM l).data = sgn (decM l).idx (decM l).bal.1 (decM l).bal.2 (decM l).slot (decM l).oth (decM l).frm ∧ (decM l).req ≠ (decM l).oth ∧ (decM l).sig.length = 32 := by
  unfold chkL at h
  generalize decM l = m at *
  simp only [Bool.and_eq_true, decide_eq_true_eq] at h
  obtain ⟨⟨h0, h1⟩, h2⟩ := h
  unfold may at h1
  simp only [Bool.and_eq_true, decide_eq_true_eq] at h1
  obtain ⟨⟨⟨⟨_, hr⟩, hf0⟩, hf1⟩, _⟩ := h1
  unfold shw at h2
  simp only [Bool.and_eq_true, decide_eq_true_eq] at h2
  obtain ⟨⟨hc, hv1⟩, hv2⟩ := h2
  have e1 := vtd_sgn hv1
  have e2 := vtd_sgn hv2
  have hn : n ≤ 16 := by
    have := Bal.rgt_le hr
    omega
  refine ⟨h0, hf1, e1, e2, fun e => ?_, ?_⟩
  · rw [e] at hc
    have := cmp_zero.2 (rfl : body m.oth = body m.oth)
    omega
  · rw [e1]
    exact sgn_len hf0 (by omega)
section
variable {P : Program}
theorem AllReadyH.more {md : Region.Mode} {ops : Array Oper} {Q : Exit → Act → World → Prop} {S : World → Prop} {fuel : Nat} {listed : Array Bool} {a : Act} {w : World} {i : Nat} {rs : List Nat} (h : wpOp P ops Q i (fun a' w' => S w' ∧ wpAnyH P md ops Q S fuel (listed.setIfInBounds i true) a' w') a w) (hs : AllReadyH P md ops Q S fuel listed a w rs) : AllReadyH P md ops Q S fuel listed a w (i :: rs) := fun j hj => by
  rcases List.mem_cons.1 hj with rfl | hj
  · exact h
  · exact hs j hj
theorem wpOp_alloc {ops : Array Oper} {Q : Exit → Act → World → Prop} {i : Nat} {K : Act → World → Prop} {a : Act} {w : World} {o : Oper} (hi : ops[i]? = some o) (hgd : o.guard = none) (ty : TypeId) (ho : o.op = .alloc ty) (d : Option Nat) (hd : o.dst = d) (zs : List Value)
    (hz : (zeroValue ty).run P w = .ok (.agg zs.toArray) w) (k : ∀ w' b, Row w' b ty zs → Below w.heap.size w w' → w.heap.size ≤ b → b < w'.heap.size → K (a.put d (.pointer (some ⟨b, 0, none⟩))) w') : wpOp P ops Q i K a w := by
  subst hd
  have hw : Region.wanted o (yielded ops a.tmps) = true := by simp [Region.wanted, hgd]
  have hk := k (w.alloc (.cells zs.toArray ty)) w.heap.size (Row.new w ty zs) (below_alloc _ _) (Nat.le_refl _) (by simp)
  unfold wpOp
  rw [hi]
  simp only [hw, if_true]
  left
  unfold Oper.wp execOp
  simp [ho, Instr.alloc, hz, newVar, newRow, newObj, Oper.upon, Value.cells]
  exact hk
end
theorem wpOp_store0 {P : Program} {ops : Array Oper} {Q : Exit → Act → World → Prop} {i : Nat} {K : Act → World → Prop} {a : Act} {w : World} {o : Oper} (hi : ops[i]? = some o) (hgd : o.guard = none) (ty : TypeId) (x y : Operand) (ho : o.op = .store ty x y) (hd : o.dst = none)
    (b : Nat) (ys : List Value) (hx : a.eval x = .pointer (some ⟨b, 0, none⟩)) (hy : a.eval y = .agg ys.toArray) (t : TypeId) (xs : List Value) (h : Row w b t xs) (hl : xs.length = ys.length)
    (hs : (P.info? ty).map (·.size) = some ys.length) (h1 : ∀ v ∈ ys, v.oneCell' = true) (k : ∀ w', Row w' b t ys → w.grownBy w' (some b) → K a w') : wpOp P ops Q i K a w :=
  wpOp_store hi hgd ty x y ho b ys hx hy t xs h hl hs h1 (fun w' h1 h2 => by rw [hd]; exact k w' h1 h2)
theorem zeroVote (u : World) : (zeroValue 58).run Tryz.prog u = .ok (.agg ([.int .i64 0, .slice none 0 0] : List Value).toArray) u := by
  have h1 : (Tryz.prog.info? 58).map (·.zero) = some (some (.agg ([.int .i64 0, .slice none 0 0] : List Value).toArray)) := by kernel_rfl
  cases hq : Tryz.prog.info? 58 with
  | none => rw [hq] at h1; cases h1
  | some i0 =>
    rw [hq] at h1
    have h2 : i0.zero = some (.agg ([.int .i64 0, .slice none 0 0] : List Value).toArray) := by simpa using h1
    simp [zeroValue, typeInfo, hq, h2]
theorem mid2 {w : World} {g k : Nat} {t : TypeId} {xs : List Value} {a b : Value} (h : Row w g t xs) (h0 : xs[k]? = some a) (h1 : xs[k + 1]? = some b) : w.rangeAt g k [a, b] := fun j v hj => by
  match j, hj with
  | 0, hj => cases hj; exact h.cell h0
  | 1, hj => cases hj; exact h.cell h1
theorem mid4 {w : World} {g k : Nat} {t : TypeId} {xs : List Value} {a b c d : Value} (h : Row w g t xs) (h0 : xs[k]? = some a) (h1 : xs[k + 1]? = some b) (h2 : xs[k + 2]? = some c) (h3 : xs[k + 3]? = some d) : w.rangeAt g k [a, b, c, d] := fun j v hj => by
  match j, hj with
  | 0, hj => cases hj; exact h.cell h0
  | 1, hj => cases hj; exact h.cell h1
  | 2, hj => cases hj; exact h.cell h2
  | 3, hj => cases hj; exact h.cell h3
def Btn (p q : Nat) : Nat → Prop := fun k => p ≤ k ∧ k < q
/-- A text between two marks stays where a box elsewhere is filled. -/
theorem RT.gro {p q b : Nat} {u u' : World} {v : Value} {l : List Int} (h : RT (Btn p q) u v l) (hg : u.grownBy u' (some b)) (hb : b < p ∨ q ≤ b) : RT (Btn p q) u' v l :=
  h.mv (fun k hk hlt => ⟨hg.block k hlt (fun e => by obtain ⟨h1, h2⟩ := hk; have := Option.some.inj e; omega), hk⟩)
theorem RT.bel {p q : Nat} {u u' : World} {v : Value} {l : List Int} (h : RT (Btn p q) u v l) (hb : Below u.heap.size u u') : RT (Btn p q) u' v l := h.mv (Mv.belowG hb)
theorem RT.rng {u u' : World} {v : Value} {l : List Int} (h : RT (From u.heap.size) u' v l) : RT (Btn u.heap.size u'.heap.size) u' v l := ⟨h.1, fun hx k hk => ⟨h.2 hx k hk, h.1.lt hx k hk⟩⟩
set_option maxRecDepth 10000 in
set_option maxHeartbeats 16000000 in
theorem prSigned_any (W : World) (bv : Value) (l : List Int) (n : Int) (hrd : Rd W bv l) (hl : l.length ≤ 140737488355328) (hT : Tab W) : Calls Tryz.prog 7 #[bv, .int .i64 n] W fun e w' => e = .returned (.bool true) ∧ Below W.heap.size W w' := by
  have hbyt := hrd.1
  obtain ⟨ao, cap, rfl, hcap⟩ := hrd.2.form
  rw [bc_len] at hrd ⊢
  have HA := proofAlive_any W hT
  go_enter Tryz.func7, Tryz.ntmps7
  go_upto_region 3 with (go_at_call 8; refine HA.mono ?_; rintro e w1 ⟨rfl, b1⟩)
  have r1 := hrd.below b1
  clear HA
  have HC := (show Hid (∀ u v, Below w1.heap.size w1 u → Rd u v l → Calls Tryz.prog 9 #[v, .int .i64 n] u (CkP l n u)) from fun u v hu hv => check_any u v l ⟨hv, fun _ _ _ => trivial⟩ n ((hT.below b1).below hu))
  go_upto_region 4 with (first
    | (go_at_call 9; refine (HC.out w2 v2 b2 (o2.rd hbyt)).mono ?_; rintro e w3 ⟨rfl, b3⟩)
    | (at_builtin; refine app_copy rfl _ _ rfl rfl _ l rfl r1 hl ?_; intro v2 w2 o2 f2 b2))
  have B3 := below_and (below_and b1 (Nat.le_refl _) b2) (Nat.le_refl _) b3
  have r3 := hrd.below B3
  have hT3 := hT.below B3
  clear HC r1 o2 f2 b1 b2 b3 hrd hT
  cases hL : chkL l n with
  | false =>
    rw [(chk_no hL).1, (chk_no hL).2]
    clear hL
    go_wp2_with fail
    go_ret
    exact ⟨rfl, B3⟩
  | true =>
    obtain ⟨hd0, hfn, hsg, hdt, hrq, h32⟩ := chk_signed hL
    have hz := dec_short hbyt hd0
    rw [(chk_yes hL).1, (chk_yes hL).2]
    clear hL
    have HD := (show Hid (∀ u v, Rd u v l → Calls Tryz.prog 19 #[v] u fun e w' => ∃ s', e = .returned (.tuple #[.agg (mc (decM l) s').toArray, .int .i64 0]) ∧ SOk Any w' (decM l) s' ∧ Below u.heap.size u w') from fun u v hv => (decode_any u v l ⟨hv, fun _ _ _ => trivial⟩).mono (by rintro e w' ⟨s1, rfl, hs, hb⟩; exact ⟨s1, by rw [hd0], hs.mv (Nat.le_refl _) Mv.any, hb⟩))
    generalize decM l = m at *
    go_upto_region 7 with (first
      | (go_at_call 19; refine (HD.out w4 v4 (o4.rd hbyt)).mono ?_; rintro e w5 ⟨s5, rfl, hs5, b5⟩; have hone := hs5.one; have hrow := Row.new w5 40 (mc zeroM sv0))
      | (at_builtin; refine app_copy rfl _ _ rfl rfl _ l rfl r3 hl ?_; intro v4 w4 o4 f4 b4)
      | (refine wl_store rfl _ _ _ rfl w5.heap.size (mc m s5) rfl rfl _ _ hrow rfl (by kernel_rfl) hone ?_; intro w6 r6 g6))
    have b6 : Below w5.heap.size w5 w6 := (below_alloc w5 (.cells (mc zeroM sv0).toArray 40)).trans (grown_below g6 (by simp) (fun k hk => by cases hk; exact Nat.le_refl _))
    have B6 := below_and (below_and (below_and B3 (Nat.le_refl _) b4) (Nat.le_refl _) b5) (Nat.le_refl _) b6
    have hs6 := hs5.below b6
    have hT6 := ((hT3.below b4).below b5).below b6
    have r6 := r6.out
    obtain ⟨cM, hcM⟩ : ∃ c, c = w5.heap.size := ⟨_, rfl⟩
    rw [← hcM] at r6 ⊢
    clear hcM hrow hone g6 b4 b5 b6 o4 f4 hs5 HD hT3 r3 B3 hd0 hbyt hl
    have FH := (show Hid (m.frm < n ∧ m.sig = sgn m.idx m.bal.1 m.bal.2 m.slot m.req m.frm ∧ m.data = sgn m.idx m.bal.1 m.bal.2 m.slot m.oth m.frm ∧ m.req ≠ m.oth ∧ m.sig.length = 32) from ⟨hfn, hsg, hdt, hrq, h32⟩)
    obtain ⟨g1, hg1⟩ : ∃ g, g = sgn m.idx m.bal.1 m.bal.2 m.slot m.req m.frm := ⟨_, rfl⟩
    obtain ⟨g2, hg2⟩ : ∃ g, g = sgn m.idx m.bal.1 m.bal.2 m.slot m.oth m.frm := ⟨_, rfl⟩
    have HG := (show Hid (g1 = sgn m.idx m.bal.1 m.bal.2 m.slot m.req m.frm ∧ g2 = sgn m.idx m.bal.1 m.bal.2 m.slot m.oth m.frm) from ⟨hg1, hg2⟩)
    clear hfn hsg hdt hrq h32 hg1 hg2
    have hdq : Below w6.heap.size w6 w6.drew := below_drewE w6
    have RG := (show Hid (∀ u, Below w6.heap.size w6 u → u.rangeAt cM 1 [.int .i64 m.bal.1, .int .i64 m.bal.2] ∧ u.rangeAt cM 8 [.int .i64 m.req.1, .int .i64 m.req.2.1, s5.o, s5.g] ∧ u.rangeAt cM 12 [.int .i64 m.oth.1, .int .i64 m.oth.2.1, s5.o', s5.g']) from fun u hu => ⟨mid2 (r6.below hu) rfl rfl, mid4 (r6.below hu) rfl rfl rfl rfl, mid4 (r6.below hu) rfl rfl rfl rfl⟩)
    have CK := (show Hid (∀ u, Below w6.heap.size w6 u → u.cell? ⟨cM, 6, none⟩ = some (.int .i64 m.idx) ∧ u.cell? ⟨cM, 3, none⟩ = some (.int .i64 m.slot)) from fun u hu => ⟨(r6.below hu).cell (j := 6) rfl, (r6.below hu).cell (j := 3) rfl⟩)
    have HB := (show Hid (∀ u, Below w6.heap.size w6 u → Calls Tryz.prog 21 #[.agg #[.int .i64 m.req.1, .int .i64 m.req.2.1, s5.o, s5.g]] u fun e w' => ∃ v', e = .returned v' ∧ Rd w' v' (body m.req) ∧ Below u.heap.size u w') from
      fun u hu => (body_any u [.int .i64 m.req.1, .int .i64 m.req.2.1, s5.o, s5.g] m.req ⟨_, _, rfl, (hs6.below hu).o, (hs6.below hu).g⟩ (Nat.le_trans hz.1 (by decide))).mono (by rintro e w' ⟨v', rfl, ho, _, hb⟩; exact ⟨v', rfl, ho.rd (body_byt (hs6.below hu).o.1.1 (hs6.below hu).g.1.1 hz.1), hb⟩))
    have HB' := (show Hid (∀ u, Below w6.heap.size w6 u → Calls Tryz.prog 21 #[.agg #[.int .i64 m.oth.1, .int .i64 m.oth.2.1, s5.o', s5.g']] u fun e w' => ∃ v', e = .returned v' ∧ Rd w' v' (body m.oth) ∧ Below u.heap.size u w') from
      fun u hu => (body_any u [.int .i64 m.oth.1, .int .i64 m.oth.2.1, s5.o', s5.g'] m.oth ⟨_, _, rfl, (hs6.below hu).o', (hs6.below hu).g'⟩ (Nat.le_trans hz.2 (by decide))).mono (by rintro e w' ⟨v', rfl, ho, _, hb⟩; exact ⟨v', rfl, ho.rd (body_byt (hs6.below hu).o'.1.1 (hs6.below hu).g'.1.1 hz.2), hb⟩))
    have HM := (show Hid (∀ u v, Below w6.heap.size w6 u → Rd u v (body m.req) → Calls Tryz.prog 20 #[.int .i64 m.idx, .agg #[.int .i64 m.bal.1, .int .i64 m.bal.2], .int .i64 m.slot, v, .int .i64 m.frm] u fun e w' => ∃ a c, e = .returned (.agg #[.int .i64 m.frm, .slice a g1.length c]) ∧ RT (Btn u.heap.size w'.heap.size) w' (.slice a g1.length c) g1 ∧ Below u.heap.size u w') from
      fun u v hu hv => by
        rw [HG.out.1]
        refine (vMake_any u m.idx m.bal.1 m.bal.2 m.slot m.frm v (body m.req) hv (body_len hz.1) (hT6.below hu)).mono ?_
        rintro e w' ⟨v', rfl, ht, hb⟩
        have ht : RT (From u.heap.size) w' v' (sgn m.idx m.bal.1 m.bal.2 m.slot m.req m.frm) := ht
        obtain ⟨a, c, rfl, _⟩ := ht.form
        exact ⟨a, c, rfl, ht.rng, hb⟩)
    have HM' := (show Hid (∀ u v, Below w6.heap.size w6 u → Rd u v (body m.oth) → Calls Tryz.prog 20 #[.int .i64 m.idx, .agg #[.int .i64 m.bal.1, .int .i64 m.bal.2], .int .i64 m.slot, v, .int .i64 m.frm] u fun e w' => ∃ a c, e = .returned (.agg #[.int .i64 m.frm, .slice a g2.length c]) ∧ RT (Btn u.heap.size w'.heap.size) w' (.slice a g2.length c) g2 ∧ Below u.heap.size u w') from
      fun u v hu hv => by
        rw [HG.out.2]
        refine (vMake_any u m.idx m.bal.1 m.bal.2 m.slot m.frm v (body m.oth) hv (body_len hz.2) (hT6.below hu)).mono ?_
        rintro e w' ⟨v', rfl, ht, hb⟩
        have ht : RT (From u.heap.size) w' v' (sgn m.idx m.bal.1 m.bal.2 m.slot m.oth m.frm) := ht
        obtain ⟨a, c, rfl, _⟩ := ht.form
        exact ⟨a, c, rfl, ht.rng, hb⟩)
    go_cut [9, 10] from 32 (fun s9 s10 wx => ∃ (bx by' : Nat) (ax ay : Option Addr) (cx cy : Nat), s9 = .pointer (some ⟨bx, 0, none⟩) ∧ s10 = .pointer (some ⟨by', 0, none⟩) ∧ Row wx bx 58 [.int .i64 m.frm, .slice ax g1.length cx] ∧ Row wx by' 58 [.int .i64 m.frm, .slice ay g2.length cy] ∧ RT Any wx (.slice ax g1.length cx) g1 ∧ RT Any wx (.slice ay g2.length cy) g2 ∧ Below w6.heap.size w6 wx)
    case first =>
      refine wp_region_held_drew (S := fun u => Below w6.heap.size w6 u) (by kernel_rfl) hdq (fun hHeld => ?_)
      clear hHeld
      refine wpAnyH_take (i := 0) (v := .pointer (some ⟨cM, 6, none⟩)) rfl (by kernel_rfl) (by kernel_rfl) (by kernel_rfl) (fun _ _ _ h => h) (Or.inl ⟨by kernel_rfl, fun u hSu => by go_simp⟩) hdq ?_
      simp only [Act.put, List.setIfInBounds_toArray, List.set_cons_zero, List.set_cons_succ]
      refine wpAnyH_take (i := 1) (v := .int .i64 m.idx) rfl (by kernel_rfl) (by kernel_rfl) (by kernel_rfl) (fun _ _ _ h => h) (Or.inl ⟨by kernel_rfl, fun u hSu => by have hck := (CK.out u hSu).1; clear CK HB HB' HM HM' RG; go_simp⟩) hdq ?_
      simp only [Act.put, List.setIfInBounds_toArray, List.set_cons_zero, List.set_cons_succ]
      refine wpAnyH_take (i := 2) (v := .pointer (some ⟨cM, 1, none⟩)) rfl (by kernel_rfl) (by kernel_rfl) (by kernel_rfl) (fun _ _ _ h => h) (Or.inl ⟨by kernel_rfl, fun u hSu => by go_simp⟩) hdq ?_
      simp only [Act.put, List.setIfInBounds_toArray, List.set_cons_zero, List.set_cons_succ]
      refine wpAnyH_take (i := 3) (v := .agg #[.int .i64 m.bal.1, .int .i64 m.bal.2]) rfl (by kernel_rfl) (by kernel_rfl) (by kernel_rfl) (fun _ _ _ h => h) (yieldsIf_load_mid (by kernel_rfl) _ _ rfl cM 1 (by go_simp) [.int .i64 m.bal.1, .int .i64 m.bal.2] _ (fun u hu => (RG.out u hu).1) Tryz.underlying32 rfl (by kernel_rfl)) hdq ?_
      simp only [Act.put, List.setIfInBounds_toArray, List.set_cons_zero, List.set_cons_succ]
      refine wpAnyH_take (i := 4) (v := .pointer (some ⟨cM, 3, none⟩)) rfl (by kernel_rfl) (by kernel_rfl) (by kernel_rfl) (fun _ _ _ h => h) (Or.inl ⟨by kernel_rfl, fun u hSu => by go_simp⟩) hdq ?_
      simp only [Act.put, List.setIfInBounds_toArray, List.set_cons_zero, List.set_cons_succ]
      refine wpAnyH_take (i := 5) (v := .int .i64 m.slot) rfl (by kernel_rfl) (by kernel_rfl) (by kernel_rfl) (fun _ _ _ h => h) (Or.inl ⟨by kernel_rfl, fun u hSu => by have hck := (CK.out u hSu).2; clear CK HB HB' HM HM' RG; go_simp⟩) hdq ?_
      simp only [Act.put, List.setIfInBounds_toArray, List.set_cons_zero, List.set_cons_succ]
      refine wpAnyH_take (i := 6) (v := .pointer (some ⟨cM, 8, none⟩)) rfl (by kernel_rfl) (by kernel_rfl) (by kernel_rfl) (fun _ _ _ h => h) (Or.inl ⟨by kernel_rfl, fun u hSu => by go_simp⟩) hdq ?_
      simp only [Act.put, List.setIfInBounds_toArray, List.set_cons_zero, List.set_cons_succ]
      refine wpAnyH_take (i := 7) (v := .agg #[.int .i64 m.req.1, .int .i64 m.req.2.1, s5.o, s5.g]) rfl (by kernel_rfl) (by kernel_rfl) (by kernel_rfl) (fun _ _ _ h => h) (yieldsIf_load_mid (by kernel_rfl) _ _ rfl cM 8 (by go_simp) [.int .i64 m.req.1, .int .i64 m.req.2.1, s5.o, s5.g] _ (fun u hu => (RG.out u hu).2.1) Tryz.underlying34 rfl (by kernel_rfl)) hdq ?_
      simp only [Act.put, List.setIfInBounds_toArray, List.set_cons_zero, List.set_cons_succ]
      refine wpAnyH_take (i := 9) (v := .int .i64 m.frm) rfl (by kernel_rfl) (by kernel_rfl) (by kernel_rfl) (fun _ _ _ h => h) (Or.inl ⟨by kernel_rfl, fun u hSu => by go_simp⟩) hdq ?_
      simp only [Act.put, List.setIfInBounds_toArray, List.set_cons_zero, List.set_cons_succ]
      refine wpAnyH_take (i := 11) (v := .pointer (some ⟨cM, 6, none⟩)) rfl (by kernel_rfl) (by kernel_rfl) (by kernel_rfl) (fun _ _ _ h => h) (Or.inl ⟨by kernel_rfl, fun u hSu => by go_simp⟩) hdq ?_
      simp only [Act.put, List.setIfInBounds_toArray, List.set_cons_zero, List.set_cons_succ]
      refine wpAnyH_take (i := 12) (v := .int .i64 m.idx) rfl (by kernel_rfl) (by kernel_rfl) (by kernel_rfl) (fun _ _ _ h => h) (Or.inl ⟨by kernel_rfl, fun u hSu => by have hck := (CK.out u hSu).1; clear CK HB HB' HM HM' RG; go_simp⟩) hdq ?_
      simp only [Act.put, List.setIfInBounds_toArray, List.set_cons_zero, List.set_cons_succ]
      refine wpAnyH_take (i := 13) (v := .pointer (some ⟨cM, 1, none⟩)) rfl (by kernel_rfl) (by kernel_rfl) (by kernel_rfl) (fun _ _ _ h => h) (Or.inl ⟨by kernel_rfl, fun u hSu => by go_simp⟩) hdq ?_
      simp only [Act.put, List.setIfInBounds_toArray, List.set_cons_zero, List.set_cons_succ]
      refine wpAnyH_take (i := 14) (v := .agg #[.int .i64 m.bal.1, .int .i64 m.bal.2]) rfl (by kernel_rfl) (by kernel_rfl) (by kernel_rfl) (fun _ _ _ h => h) (yieldsIf_load_mid (by kernel_rfl) _ _ rfl cM 1 (by go_simp) [.int .i64 m.bal.1, .int .i64 m.bal.2] _ (fun u hu => (RG.out u hu).1) Tryz.underlying32 rfl (by kernel_rfl)) hdq ?_
      simp only [Act.put, List.setIfInBounds_toArray, List.set_cons_zero, List.set_cons_succ]
      refine wpAnyH_take (i := 15) (v := .pointer (some ⟨cM, 3, none⟩)) rfl (by kernel_rfl) (by kernel_rfl) (by kernel_rfl) (fun _ _ _ h => h) (Or.inl ⟨by kernel_rfl, fun u hSu => by go_simp⟩) hdq ?_
      simp only [Act.put, List.setIfInBounds_toArray, List.set_cons_zero, List.set_cons_succ]
      refine wpAnyH_take (i := 16) (v := .int .i64 m.slot) rfl (by kernel_rfl) (by kernel_rfl) (by kernel_rfl) (fun _ _ _ h => h) (Or.inl ⟨by kernel_rfl, fun u hSu => by have hck := (CK.out u hSu).2; clear CK HB HB' HM HM' RG; go_simp⟩) hdq ?_
      simp only [Act.put, List.setIfInBounds_toArray, List.set_cons_zero, List.set_cons_succ]
      refine wpAnyH_take (i := 17) (v := .pointer (some ⟨cM, 12, none⟩)) rfl (by kernel_rfl) (by kernel_rfl) (by kernel_rfl) (fun _ _ _ h => h) (Or.inl ⟨by kernel_rfl, fun u hSu => by go_simp⟩) hdq ?_
      simp only [Act.put, List.setIfInBounds_toArray, List.set_cons_zero, List.set_cons_succ]
      refine wpAnyH_take (i := 18) (v := .agg #[.int .i64 m.oth.1, .int .i64 m.oth.2.1, s5.o', s5.g']) rfl (by kernel_rfl) (by kernel_rfl) (by kernel_rfl) (fun _ _ _ h => h) (yieldsIf_load_mid (by kernel_rfl) _ _ rfl cM 12 (by go_simp) [.int .i64 m.oth.1, .int .i64 m.oth.2.1, s5.o', s5.g'] _ (fun u hu => (RG.out u hu).2.2) Tryz.underlying34 rfl (by kernel_rfl)) hdq ?_
      simp only [Act.put, List.setIfInBounds_toArray, List.set_cons_zero, List.set_cons_succ]
      refine wpAnyH_take (i := 20) (v := .int .i64 m.frm) rfl (by kernel_rfl) (by kernel_rfl) (by kernel_rfl) (fun _ _ _ h => h) (Or.inl ⟨by kernel_rfl, fun u hSu => by go_simp⟩) hdq ?_
      simp only [Act.put, List.setIfInBounds_toArray, List.set_cons_zero, List.set_cons_succ]
      have B0 := hdq
      have z0 := hdq.size
      clear hdq
      refine wpAnyH_ready (rs := [8, 22, 23]) (by kernel_rfl) (by simp) ?_
      refine AllReadyH.cons (o := _) rfl (fun K hK => ?_) ?_
      · go_simp
        refine (HB.out w6.drew B0).mono ?_
        rintro e u1 ⟨vR1, rfl, R1, b1⟩
        have B1 : Below w6.heap.size w6 u1 := below_and B0 (Nat.le_refl _) b1
        have z1 := b1.size
        try go_simp
        refine hK.out _ _ B1 (fun hHeld => ?_)
        clear hK K hHeld
        refine wpAnyH_ready (rs := [10, 22, 23]) (by kernel_rfl) (by simp) ?_
        refine AllReadyH.cons (o := _) rfl (fun K hK => ?_) ?_
        · go_simp
          refine (HM.out u1 _ B1 R1).mono ?_
          rintro e u2 ⟨a1, c1, rfl, t1, b2⟩
          have B2 : Below w6.heap.size w6 u2 := below_and B1 (Nat.le_refl _) b2
          have z2 := b2.size
          try go_simp
          refine hK.out _ _ B2 (fun hHeld => ?_)
          clear hK K hHeld
          refine wpAnyH_ready (rs := [19, 22, 23]) (by kernel_rfl) (by simp) ?_
          refine AllReadyH.cons (o := _) rfl (fun K hK => ?_) ?_
          · go_simp
            refine (HB'.out u2 B2).mono ?_
            rintro e u3 ⟨vR2, rfl, R2, b3⟩
            have B3 : Below w6.heap.size w6 u3 := below_and B2 (Nat.le_refl _) b3
            have t1 := t1.bel b3
            have z3 := b3.size
            try go_simp
            refine hK.out _ _ B3 (fun hHeld => ?_)
            clear hK K hHeld
            refine wpAnyH_ready (rs := [21, 22, 23]) (by kernel_rfl) (by simp) ?_
            refine AllReadyH.cons (o := _) rfl (fun K hK => ?_) ?_
            · go_simp
              refine (HM'.out u3 _ B3 R2).mono ?_
              rintro e u4 ⟨a2, c2, rfl, t2, b4⟩
              have B4 : Below w6.heap.size w6 u4 := below_and B3 (Nat.le_refl _) b4
              have t1 := t1.bel b4
              have z4 := b4.size
              try go_simp
              refine hK.out _ _ B4 (fun hHeld => ?_)
              clear hK K hHeld
              refine wpAnyH_ready (rs := [22, 23]) (by kernel_rfl) (by simp) ?_
              refine AllReadyH.more (wpOp_alloc rfl rfl _ rfl (some 9) rfl _ (zeroVote _) (fun u5 bx rX b5 l22 h22 => ⟨below_and B4 (Nat.le_refl _) b5, ?_⟩)) ?_
              · have B5 : Below w6.heap.size w6 u5 := below_and B4 (Nat.le_refl _) b5
                have t1 := t1.bel b5
                have t2 := t2.bel b5
                have z5 := b5.size
                simp only [Act.put, List.setIfInBounds_toArray, List.set_cons_zero, List.set_cons_succ]
                refine wpAnyH_ready (rs := [23]) (by kernel_rfl) (by simp) ?_
                refine AllReadyH.more (wpOp_alloc rfl rfl _ rfl (some 10) rfl _ (zeroVote _) (fun u6 by0 rY b6 l23 h23 => ⟨below_and B5 (Nat.le_refl _) b6, ?_⟩)) AllReadyH.nil
                have B6 : Below w6.heap.size w6 u6 := below_and B5 (Nat.le_refl _) b6
                have t1 := t1.bel b6
                have t2 := t2.bel b6
                have rX := rX.below b6
                have z6 := b6.size
                simp only [Act.put, List.setIfInBounds_toArray, List.set_cons_zero, List.set_cons_succ]
                refine wpAnyH_ready (rs := [24]) (by kernel_rfl) (by simp) ?_
                refine AllReadyH.more (wpOp_store0 rfl rfl _ _ _ rfl rfl bx [.int .i64 m.frm, .slice a1 g1.length c1] rfl rfl _ _ rX rfl (by kernel_rfl) (by intro q hq; simp at hq; rcases hq with rfl | rfl <;> rfl) (fun u7 rX b7 => ⟨B6.trans (grown_below b7 B6.size (fun k hk => by cases hk; omega)), ?_⟩)) AllReadyH.nil
                have B7 : Below w6.heap.size w6 u7 := B6.trans (grown_below b7 B6.size (fun k hk => by cases hk; omega))
                have t1 := t1.gro b7 (by omega)
                have t2 := t2.gro b7 (by omega)
                have rY := rY.grown b7 (fun e => by have := Option.some.inj e; omega)
                have z7 := b7.size
                refine wpAnyH_ready (rs := [25]) (by kernel_rfl) (by simp) ?_
                refine AllReadyH.more (wpOp_store0 rfl rfl _ _ _ rfl rfl by0 [.int .i64 m.frm, .slice a2 g2.length c2] rfl rfl _ _ rY rfl (by kernel_rfl) (by intro q hq; simp at hq; rcases hq with rfl | rfl <;> rfl) (fun u8 rY b8 => ⟨B7.trans (grown_below b8 B7.size (fun k hk => by cases hk; omega)), ?_⟩)) AllReadyH.nil
                have B8 : Below w6.heap.size w6 u8 := B7.trans (grown_below b8 B7.size (fun k hk => by cases hk; omega))
                have t1 := t1.gro b8 (by omega)
                have t2 := t2.gro b8 (by omega)
                have rX := rX.grown b8 (fun e => by have := Option.some.inj e; omega)
                have z8 := b8.size
                refine wpAnyH_done (by kernel_rfl) ?_ _
                go_wp2_with fail
                go_meet
                case rel => exact ⟨bx, by0, _, _, _, _, rfl, rfl, rX, rY, t1.mv Mv.any, t2.mv Mv.any, B8⟩
              refine AllReadyH.more (wpOp_alloc rfl rfl _ rfl (some 10) rfl _ (zeroVote _) (fun u5 by0 rY b5 l23 h23 => ⟨below_and B4 (Nat.le_refl _) b5, ?_⟩)) AllReadyH.nil
              have B5 : Below w6.heap.size w6 u5 := below_and B4 (Nat.le_refl _) b5
              have t1 := t1.bel b5
              have t2 := t2.bel b5
              have z5 := b5.size
              simp only [Act.put, List.setIfInBounds_toArray, List.set_cons_zero, List.set_cons_succ]
              refine wpAnyH_ready (rs := [22]) (by kernel_rfl) (by simp) ?_
              refine AllReadyH.more (wpOp_alloc rfl rfl _ rfl (some 9) rfl _ (zeroVote _) (fun u6 bx rX b6 l22 h22 => ⟨below_and B5 (Nat.le_refl _) b6, ?_⟩)) AllReadyH.nil
              have B6 : Below w6.heap.size w6 u6 := below_and B5 (Nat.le_refl _) b6
              have t1 := t1.bel b6
              have t2 := t2.bel b6
              have rY := rY.below b6
              have z6 := b6.size
              simp only [Act.put, List.setIfInBounds_toArray, List.set_cons_zero, List.set_cons_succ]
              refine wpAnyH_ready (rs := [24]) (by kernel_rfl) (by simp) ?_
              refine AllReadyH.more (wpOp_store0 rfl rfl _ _ _ rfl rfl bx [.int .i64 m.frm, .slice a1 g1.length c1] rfl rfl _ _ rX rfl (by kernel_rfl) (by intro q hq; simp at hq; rcases hq with rfl | rfl <;> rfl) (fun u7 rX b7 => ⟨B6.trans (grown_below b7 B6.size (fun k hk => by cases hk; omega)), ?_⟩)) AllReadyH.nil
              have B7 : Below w6.heap.size w6 u7 := B6.trans (grown_below b7 B6.size (fun k hk => by cases hk; omega))
              have t1 := t1.gro b7 (by omega)
              have t2 := t2.gro b7 (by omega)
              have rY := rY.grown b7 (fun e => by have := Option.some.inj e; omega)
              have z7 := b7.size
              refine wpAnyH_ready (rs := [25]) (by kernel_rfl) (by simp) ?_
              refine AllReadyH.more (wpOp_store0 rfl rfl _ _ _ rfl rfl by0 [.int .i64 m.frm, .slice a2 g2.length c2] rfl rfl _ _ rY rfl (by kernel_rfl) (by intro q hq; simp at hq; rcases hq with rfl | rfl <;> rfl) (fun u8 rY b8 => ⟨B7.trans (grown_below b8 B7.size (fun k hk => by cases hk; omega)), ?_⟩)) AllReadyH.nil
              have B8 : Below w6.heap.size w6 u8 := B7.trans (grown_below b8 B7.size (fun k hk => by cases hk; omega))
              have t1 := t1.gro b8 (by omega)
              have t2 := t2.gro b8 (by omega)
              have rX := rX.grown b8 (fun e => by have := Option.some.inj e; omega)
              have z8 := b8.size
              refine wpAnyH_done (by kernel_rfl) ?_ _
              go_wp2_with fail
              go_meet
              case rel => exact ⟨bx, by0, _, _, _, _, rfl, rfl, rX, rY, t1.mv Mv.any, t2.mv Mv.any, B8⟩
            refine AllReadyH.more (wpOp_alloc rfl rfl _ rfl (some 9) rfl _ (zeroVote _) (fun u4 bx rX b4 l22 h22 => ⟨below_and B3 (Nat.le_refl _) b4, ?_⟩)) ?_
            · have B4 : Below w6.heap.size w6 u4 := below_and B3 (Nat.le_refl _) b4
              have R2 := R2.below b4
              have t1 := t1.bel b4
              have z4 := b4.size
              simp only [Act.put, List.setIfInBounds_toArray, List.set_cons_zero, List.set_cons_succ]
              refine wpAnyH_ready (rs := [21, 23]) (by kernel_rfl) (by simp) ?_
              refine AllReadyH.cons (o := _) rfl (fun K hK => ?_) ?_
              · go_simp
                refine (HM'.out u4 _ B4 R2).mono ?_
                rintro e u5 ⟨a2, c2, rfl, t2, b5⟩
                have B5 : Below w6.heap.size w6 u5 := below_and B4 (Nat.le_refl _) b5
                have t1 := t1.bel b5
                have rX := rX.below b5
                have z5 := b5.size
                try go_simp
                refine hK.out _ _ B5 (fun hHeld => ?_)
                clear hK K hHeld
                refine wpAnyH_ready (rs := [23]) (by kernel_rfl) (by simp) ?_
                refine AllReadyH.more (wpOp_alloc rfl rfl _ rfl (some 10) rfl _ (zeroVote _) (fun u6 by0 rY b6 l23 h23 => ⟨below_and B5 (Nat.le_refl _) b6, ?_⟩)) AllReadyH.nil
                have B6 : Below w6.heap.size w6 u6 := below_and B5 (Nat.le_refl _) b6
                have t1 := t1.bel b6
                have t2 := t2.bel b6
                have rX := rX.below b6
                have z6 := b6.size
                simp only [Act.put, List.setIfInBounds_toArray, List.set_cons_zero, List.set_cons_succ]
                refine wpAnyH_ready (rs := [24]) (by kernel_rfl) (by simp) ?_
                refine AllReadyH.more (wpOp_store0 rfl rfl _ _ _ rfl rfl bx [.int .i64 m.frm, .slice a1 g1.length c1] rfl rfl _ _ rX rfl (by kernel_rfl) (by intro q hq; simp at hq; rcases hq with rfl | rfl <;> rfl) (fun u7 rX b7 => ⟨B6.trans (grown_below b7 B6.size (fun k hk => by cases hk; omega)), ?_⟩)) AllReadyH.nil
                have B7 : Below w6.heap.size w6 u7 := B6.trans (grown_below b7 B6.size (fun k hk => by cases hk; omega))
                have t1 := t1.gro b7 (by omega)
                have t2 := t2.gro b7 (by omega)
                have rY := rY.grown b7 (fun e => by have := Option.some.inj e; omega)
                have z7 := b7.size
                refine wpAnyH_ready (rs := [25]) (by kernel_rfl) (by simp) ?_
                refine AllReadyH.more (wpOp_store0 rfl rfl _ _ _ rfl rfl by0 [.int .i64 m.frm, .slice a2 g2.length c2] rfl rfl _ _ rY rfl (by kernel_rfl) (by intro q hq; simp at hq; rcases hq with rfl | rfl <;> rfl) (fun u8 rY b8 => ⟨B7.trans (grown_below b8 B7.size (fun k hk => by cases hk; omega)), ?_⟩)) AllReadyH.nil
                have B8 : Below w6.heap.size w6 u8 := B7.trans (grown_below b8 B7.size (fun k hk => by cases hk; omega))
                have t1 := t1.gro b8 (by omega)
                have t2 := t2.gro b8 (by omega)
                have rX := rX.grown b8 (fun e => by have := Option.some.inj e; omega)
                have z8 := b8.size
                refine wpAnyH_done (by kernel_rfl) ?_ _
                go_wp2_with fail
                go_meet
                case rel => exact ⟨bx, by0, _, _, _, _, rfl, rfl, rX, rY, t1.mv Mv.any, t2.mv Mv.any, B8⟩
              refine AllReadyH.more (wpOp_alloc rfl rfl _ rfl (some 10) rfl _ (zeroVote _) (fun u5 by0 rY b5 l23 h23 => ⟨below_and B4 (Nat.le_refl _) b5, ?_⟩)) AllReadyH.nil
              have B5 : Below w6.heap.size w6 u5 := below_and B4 (Nat.le_refl _) b5
              have R2 := R2.below b5
              have t1 := t1.bel b5
              have rX := rX.below b5
              have z5 := b5.size
              simp only [Act.put, List.setIfInBounds_toArray, List.set_cons_zero, List.set_cons_succ]
              refine wpAnyH_ready (rs := [21]) (by kernel_rfl) (by simp) ?_
              refine AllReadyH.cons (o := _) rfl (fun K hK => ?_) AllReadyH.nil
              go_simp
              refine (HM'.out u5 _ B5 R2).mono ?_
              rintro e u6 ⟨a2, c2, rfl, t2, b6⟩
              have B6 : Below w6.heap.size w6 u6 := below_and B5 (Nat.le_refl _) b6
              have t1 := t1.bel b6
              have rX := rX.below b6
              have rY := rY.below b6
              have z6 := b6.size
              try go_simp
              refine hK.out _ _ B6 (fun hHeld => ?_)
              clear hK K hHeld
              refine wpAnyH_ready (rs := [24]) (by kernel_rfl) (by simp) ?_
              refine AllReadyH.more (wpOp_store0 rfl rfl _ _ _ rfl rfl bx [.int .i64 m.frm, .slice a1 g1.length c1] rfl rfl _ _ rX rfl (by kernel_rfl) (by intro q hq; simp at hq; rcases hq with rfl | rfl <;> rfl) (fun u7 rX b7 => ⟨B6.trans (grown_below b7 B6.size (fun k hk => by cases hk; omega)), ?_⟩)) AllReadyH.nil
              have B7 : Below w6.heap.size w6 u7 := B6.trans (grown_below b7 B6.size (fun k hk => by cases hk; omega))
              have t1 := t1.gro b7 (by omega)
              have t2 := t2.gro b7 (by omega)
              have rY := rY.grown b7 (fun e => by have := Option.some.inj e; omega)
              have z7 := b7.size
              refine wpAnyH_ready (rs := [25]) (by kernel_rfl) (by simp) ?_
              refine AllReadyH.more (wpOp_store0 rfl rfl _ _ _ rfl rfl by0 [.int .i64 m.frm, .slice a2 g2.length c2] rfl rfl _ _ rY rfl (by kernel_rfl) (by intro q hq; simp at hq; rcases hq with rfl | rfl <;> rfl) (fun u8 rY b8 => ⟨B7.trans (grown_below b8 B7.size (fun k hk => by cases hk; omega)), ?_⟩)) AllReadyH.nil
              have B8 : Below w6.heap.size w6 u8 := B7.trans (grown_below b8 B7.size (fun k hk => by cases hk; omega))
              have t1 := t1.gro b8 (by omega)
              have t2 := t2.gro b8 (by omega)
              have rX := rX.grown b8 (fun e => by have := Option.some.inj e; omega)
              have z8 := b8.size
              refine wpAnyH_done (by kernel_rfl) ?_ _
              go_wp2_with fail
              go_meet
              case rel => exact ⟨bx, by0, _, _, _, _, rfl, rfl, rX, rY, t1.mv Mv.any, t2.mv Mv.any, B8⟩
            refine AllReadyH.more (wpOp_alloc rfl rfl _ rfl (some 10) rfl _ (zeroVote _) (fun u4 by0 rY b4 l23 h23 => ⟨below_and B3 (Nat.le_refl _) b4, ?_⟩)) AllReadyH.nil
            have B4 : Below w6.heap.size w6 u4 := below_and B3 (Nat.le_refl _) b4
            have R2 := R2.below b4
            have t1 := t1.bel b4
            have z4 := b4.size
            simp only [Act.put, List.setIfInBounds_toArray, List.set_cons_zero, List.set_cons_succ]
            refine wpAnyH_ready (rs := [21, 22]) (by kernel_rfl) (by simp) ?_
            refine AllReadyH.cons (o := _) rfl (fun K hK => ?_) ?_
            · go_simp
              refine (HM'.out u4 _ B4 R2).mono ?_
              rintro e u5 ⟨a2, c2, rfl, t2, b5⟩
              have B5 : Below w6.heap.size w6 u5 := below_and B4 (Nat.le_refl _) b5
              have t1 := t1.bel b5
              have rY := rY.below b5
              have z5 := b5.size
              try go_simp
              refine hK.out _ _ B5 (fun hHeld => ?_)
              clear hK K hHeld
              refine wpAnyH_ready (rs := [22]) (by kernel_rfl) (by simp) ?_
              refine AllReadyH.more (wpOp_alloc rfl rfl _ rfl (some 9) rfl _ (zeroVote _) (fun u6 bx rX b6 l22 h22 => ⟨below_and B5 (Nat.le_refl _) b6, ?_⟩)) AllReadyH.nil
              have B6 : Below w6.heap.size w6 u6 := below_and B5 (Nat.le_refl _) b6
              have t1 := t1.bel b6
              have t2 := t2.bel b6
              have rY := rY.below b6
              have z6 := b6.size
              simp only [Act.put, List.setIfInBounds_toArray, List.set_cons_zero, List.set_cons_succ]
              refine wpAnyH_ready (rs := [24]) (by kernel_rfl) (by simp) ?_
              refine AllReadyH.more (wpOp_store0 rfl rfl _ _ _ rfl rfl bx [.int .i64 m.frm, .slice a1 g1.length c1] rfl rfl _ _ rX rfl (by kernel_rfl) (by intro q hq; simp at hq; rcases hq with rfl | rfl <;> rfl) (fun u7 rX b7 => ⟨B6.trans (grown_below b7 B6.size (fun k hk => by cases hk; omega)), ?_⟩)) AllReadyH.nil
              have B7 : Below w6.heap.size w6 u7 := B6.trans (grown_below b7 B6.size (fun k hk => by cases hk; omega))
              have t1 := t1.gro b7 (by omega)
              have t2 := t2.gro b7 (by omega)
              have rY := rY.grown b7 (fun e => by have := Option.some.inj e; omega)
              have z7 := b7.size
              refine wpAnyH_ready (rs := [25]) (by kernel_rfl) (by simp) ?_
              refine AllReadyH.more (wpOp_store0 rfl rfl _ _ _ rfl rfl by0 [.int .i64 m.frm, .slice a2 g2.length c2] rfl rfl _ _ rY rfl (by kernel_rfl) (by intro q hq; simp at hq; rcases hq with rfl | rfl <;> rfl) (fun u8 rY b8 => ⟨B7.trans (grown_below b8 B7.size (fun k hk => by cases hk; omega)), ?_⟩)) AllReadyH.nil
              have B8 : Below w6.heap.size w6 u8 := B7.trans (grown_below b8 B7.size (fun k hk => by cases hk; omega))
              have t1 := t1.gro b8 (by omega)
              have t2 := t2.gro b8 (by omega)
              have rX := rX.grown b8 (fun e => by have := Option.some.inj e; omega)
              have z8 := b8.size
              refine wpAnyH_done (by kernel_rfl) ?_ _
              go_wp2_with fail
              go_meet
              case rel => exact ⟨bx, by0, _, _, _, _, rfl, rfl, rX, rY, t1.mv Mv.any, t2.mv Mv.any, B8⟩
            refine AllReadyH.more (wpOp_alloc rfl rfl _ rfl (some 9) rfl _ (zeroVote _) (fun u5 bx rX b5 l22 h22 => ⟨below_and B4 (Nat.le_refl _) b5, ?_⟩)) AllReadyH.nil
            have B5 : Below w6.heap.size w6 u5 := below_and B4 (Nat.le_refl _) b5
            have R2 := R2.below b5
            have t1 := t1.bel b5
            have rY := rY.below b5
            have z5 := b5.size
            simp only [Act.put, List.setIfInBounds_toArray, List.set_cons_zero, List.set_cons_succ]
            refine wpAnyH_ready (rs := [21]) (by kernel_rfl) (by simp) ?_
            refine AllReadyH.cons (o := _) rfl (fun K hK => ?_) AllReadyH.nil
            go_simp
            refine (HM'.out u5 _ B5 R2).mono ?_
            rintro e u6 ⟨a2, c2, rfl, t2, b6⟩
            have B6 : Below w6.heap.size w6 u6 := below_and B5 (Nat.le_refl _) b6
            have t1 := t1.bel b6
            have rX := rX.below b6
            have rY := rY.below b6
            have z6 := b6.size
            try go_simp
            refine hK.out _ _ B6 (fun hHeld => ?_)
            clear hK K hHeld
            refine wpAnyH_ready (rs := [24]) (by kernel_rfl) (by simp) ?_
            refine AllReadyH.more (wpOp_store0 rfl rfl _ _ _ rfl rfl bx [.int .i64 m.frm, .slice a1 g1.length c1] rfl rfl _ _ rX rfl (by kernel_rfl) (by intro q hq; simp at hq; rcases hq with rfl | rfl <;> rfl) (fun u7 rX b7 => ⟨B6.trans (grown_below b7 B6.size (fun k hk => by cases hk; omega)), ?_⟩)) AllReadyH.nil
            have B7 : Below w6.heap.size w6 u7 := B6.trans (grown_below b7 B6.size (fun k hk => by cases hk; omega))
            have t1 := t1.gro b7 (by omega)
            have t2 := t2.gro b7 (by omega)
            have rY := rY.grown b7 (fun e => by have := Option.some.inj e; omega)
            have z7 := b7.size
            refine wpAnyH_ready (rs := [25]) (by kernel_rfl) (by simp) ?_
            refine AllReadyH.more (wpOp_store0 rfl rfl _ _ _ rfl rfl by0 [.int .i64 m.frm, .slice a2 g2.length c2] rfl rfl _ _ rY rfl (by kernel_rfl) (by intro q hq; simp at hq; rcases hq with rfl | rfl <;> rfl) (fun u8 rY b8 => ⟨B7.trans (grown_below b8 B7.size (fun k hk => by cases hk; omega)), ?_⟩)) AllReadyH.nil
            have B8 : Below w6.heap.size w6 u8 := B7.trans (grown_below b8 B7.size (fun k hk => by cases hk; omega))
            have t1 := t1.gro b8 (by omega)
            have t2 := t2.gro b8 (by omega)
            have rX := rX.grown b8 (fun e => by have := Option.some.inj e; omega)
            have z8 := b8.size
            refine wpAnyH_done (by kernel_rfl) ?_ _
            go_wp2_with fail
            go_meet
            case rel => exact ⟨bx, by0, _, _, _, _, rfl, rfl, rX, rY, t1.mv Mv.any, t2.mv Mv.any, B8⟩
          refine AllReadyH.more (wpOp_alloc rfl rfl _ rfl (some 9) rfl _ (zeroVote _) (fun u3 bx rX b3 l22 h22 => ⟨below_and B2 (Nat.le_refl _) b3, ?_⟩)) ?_
          · have B3 : Below w6.heap.size w6 u3 := below_and B2 (Nat.le_refl _) b3
            have t1 := t1.bel b3
            have z3 := b3.size
            simp only [Act.put, List.setIfInBounds_toArray, List.set_cons_zero, List.set_cons_succ]
            refine wpAnyH_ready (rs := [19, 23]) (by kernel_rfl) (by simp) ?_
            refine AllReadyH.cons (o := _) rfl (fun K hK => ?_) ?_
            · go_simp
              refine (HB'.out u3 B3).mono ?_
              rintro e u4 ⟨vR2, rfl, R2, b4⟩
              have B4 : Below w6.heap.size w6 u4 := below_and B3 (Nat.le_refl _) b4
              have t1 := t1.bel b4
              have rX := rX.below b4
              have z4 := b4.size
              try go_simp
              refine hK.out _ _ B4 (fun hHeld => ?_)
              clear hK K hHeld
              refine wpAnyH_ready (rs := [21, 23]) (by kernel_rfl) (by simp) ?_
              refine AllReadyH.cons (o := _) rfl (fun K hK => ?_) ?_
              · go_simp
                refine (HM'.out u4 _ B4 R2).mono ?_
                rintro e u5 ⟨a2, c2, rfl, t2, b5⟩
                have B5 : Below w6.heap.size w6 u5 := below_and B4 (Nat.le_refl _) b5
                have t1 := t1.bel b5
                have rX := rX.below b5
                have z5 := b5.size
                try go_simp
                refine hK.out _ _ B5 (fun hHeld => ?_)
                clear hK K hHeld
                refine wpAnyH_ready (rs := [23]) (by kernel_rfl) (by simp) ?_
                refine AllReadyH.more (wpOp_alloc rfl rfl _ rfl (some 10) rfl _ (zeroVote _) (fun u6 by0 rY b6 l23 h23 => ⟨below_and B5 (Nat.le_refl _) b6, ?_⟩)) AllReadyH.nil
                have B6 : Below w6.heap.size w6 u6 := below_and B5 (Nat.le_refl _) b6
                have t1 := t1.bel b6
                have t2 := t2.bel b6
                have rX := rX.below b6
                have z6 := b6.size
                simp only [Act.put, List.setIfInBounds_toArray, List.set_cons_zero, List.set_cons_succ]
                refine wpAnyH_ready (rs := [24]) (by kernel_rfl) (by simp) ?_
                refine AllReadyH.more (wpOp_store0 rfl rfl _ _ _ rfl rfl bx [.int .i64 m.frm, .slice a1 g1.length c1] rfl rfl _ _ rX rfl (by kernel_rfl) (by intro q hq; simp at hq; rcases hq with rfl | rfl <;> rfl) (fun u7 rX b7 => ⟨B6.trans (grown_below b7 B6.size (fun k hk => by cases hk; omega)), ?_⟩)) AllReadyH.nil
                have B7 : Below w6.heap.size w6 u7 := B6.trans (grown_below b7 B6.size (fun k hk => by cases hk; omega))
                have t1 := t1.gro b7 (by omega)
                have t2 := t2.gro b7 (by omega)
                have rY := rY.grown b7 (fun e => by have := Option.some.inj e; omega)
                have z7 := b7.size
                refine wpAnyH_ready (rs := [25]) (by kernel_rfl) (by simp) ?_
                refine AllReadyH.more (wpOp_store0 rfl rfl _ _ _ rfl rfl by0 [.int .i64 m.frm, .slice a2 g2.length c2] rfl rfl _ _ rY rfl (by kernel_rfl) (by intro q hq; simp at hq; rcases hq with rfl | rfl <;> rfl) (fun u8 rY b8 => ⟨B7.trans (grown_below b8 B7.size (fun k hk => by cases hk; omega)), ?_⟩)) AllReadyH.nil
                have B8 : Below w6.heap.size w6 u8 := B7.trans (grown_below b8 B7.size (fun k hk => by cases hk; omega))
                have t1 := t1.gro b8 (by omega)
                have t2 := t2.gro b8 (by omega)
                have rX := rX.grown b8 (fun e => by have := Option.some.inj e; omega)
                have z8 := b8.size
                refine wpAnyH_done (by kernel_rfl) ?_ _
                go_wp2_with fail
                go_meet
                case rel => exact ⟨bx, by0, _, _, _, _, rfl, rfl, rX, rY, t1.mv Mv.any, t2.mv Mv.any, B8⟩
              refine AllReadyH.more (wpOp_alloc rfl rfl _ rfl (some 10) rfl _ (zeroVote _) (fun u5 by0 rY b5 l23 h23 => ⟨below_and B4 (Nat.le_refl _) b5, ?_⟩)) AllReadyH.nil
              have B5 : Below w6.heap.size w6 u5 := below_and B4 (Nat.le_refl _) b5
              have R2 := R2.below b5
              have t1 := t1.bel b5
              have rX := rX.below b5
              have z5 := b5.size
              simp only [Act.put, List.setIfInBounds_toArray, List.set_cons_zero, List.set_cons_succ]
              refine wpAnyH_ready (rs := [21]) (by kernel_rfl) (by simp) ?_
              refine AllReadyH.cons (o := _) rfl (fun K hK => ?_) AllReadyH.nil
              go_simp
              refine (HM'.out u5 _ B5 R2).mono ?_
              rintro e u6 ⟨a2, c2, rfl, t2, b6⟩
              have B6 : Below w6.heap.size w6 u6 := below_and B5 (Nat.le_refl _) b6
              have t1 := t1.bel b6
              have rX := rX.below b6
              have rY := rY.below b6
              have z6 := b6.size
              try go_simp
              refine hK.out _ _ B6 (fun hHeld => ?_)
              clear hK K hHeld
              refine wpAnyH_ready (rs := [24]) (by kernel_rfl) (by simp) ?_
              refine AllReadyH.more (wpOp_store0 rfl rfl _ _ _ rfl rfl bx [.int .i64 m.frm, .slice a1 g1.length c1] rfl rfl _ _ rX rfl (by kernel_rfl) (by intro q hq; simp at hq; rcases hq with rfl | rfl <;> rfl) (fun u7 rX b7 => ⟨B6.trans (grown_below b7 B6.size (fun k hk => by cases hk; omega)), ?_⟩)) AllReadyH.nil
              have B7 : Below w6.heap.size w6 u7 := B6.trans (grown_below b7 B6.size (fun k hk => by cases hk; omega))
              have t1 := t1.gro b7 (by omega)
              have t2 := t2.gro b7 (by omega)
              have rY := rY.grown b7 (fun e => by have := Option.some.inj e; omega)
              have z7 := b7.size
              refine wpAnyH_ready (rs := [25]) (by kernel_rfl) (by simp) ?_
              refine AllReadyH.more (wpOp_store0 rfl rfl _ _ _ rfl rfl by0 [.int .i64 m.frm, .slice a2 g2.length c2] rfl rfl _ _ rY rfl (by kernel_rfl) (by intro q hq; simp at hq; rcases hq with rfl | rfl <;> rfl) (fun u8 rY b8 => ⟨B7.trans (grown_below b8 B7.size (fun k hk => by cases hk; omega)), ?_⟩)) AllReadyH.nil
              have B8 : Below w6.heap.size w6 u8 := B7.trans (grown_below b8 B7.size (fun k hk => by cases hk; omega))
              have t1 := t1.gro b8 (by omega)
              have t2 := t2.gro b8 (by omega)
              have rX := rX.grown b8 (fun e => by have := Option.some.inj e; omega)
              have z8 := b8.size
              refine wpAnyH_done (by kernel_rfl) ?_ _
              go_wp2_with fail
              go_meet
              case rel => exact ⟨bx, by0, _, _, _, _, rfl, rfl, rX, rY, t1.mv Mv.any, t2.mv Mv.any, B8⟩
            refine AllReadyH.more (wpOp_alloc rfl rfl _ rfl (some 10) rfl _ (zeroVote _) (fun u4 by0 rY b4 l23 h23 => ⟨below_and B3 (Nat.le_refl _) b4, ?_⟩)) AllReadyH.nil
            have B4 : Below w6.heap.size w6 u4 := below_and B3 (Nat.le_refl _) b4
            have t1 := t1.bel b4
            have rX := rX.below b4
            have z4 := b4.size
            simp only [Act.put, List.setIfInBounds_toArray, List.set_cons_zero, List.set_cons_succ]
            refine wpAnyH_ready (rs := [19]) (by kernel_rfl) (by simp) ?_
            refine AllReadyH.cons (o := _) rfl (fun K hK => ?_) AllReadyH.nil
            go_simp
            refine (HB'.out u4 B4).mono ?_
            rintro e u5 ⟨vR2, rfl, R2, b5⟩
            have B5 : Below w6.heap.size w6 u5 := below_and B4 (Nat.le_refl _) b5
            have t1 := t1.bel b5
            have rX := rX.below b5
            have rY := rY.below b5
            have z5 := b5.size
            try go_simp
            refine hK.out _ _ B5 (fun hHeld => ?_)
            clear hK K hHeld
            refine wpAnyH_ready (rs := [21]) (by kernel_rfl) (by simp) ?_
            refine AllReadyH.cons (o := _) rfl (fun K hK => ?_) AllReadyH.nil
            go_simp
            refine (HM'.out u5 _ B5 R2).mono ?_
            rintro e u6 ⟨a2, c2, rfl, t2, b6⟩
            have B6 : Below w6.heap.size w6 u6 := below_and B5 (Nat.le_refl _) b6
            have t1 := t1.bel b6
            have rX := rX.below b6
            have rY := rY.below b6
            have z6 := b6.size
            try go_simp
            refine hK.out _ _ B6 (fun hHeld => ?_)
            clear hK K hHeld
            refine wpAnyH_ready (rs := [24]) (by kernel_rfl) (by simp) ?_
            refine AllReadyH.more (wpOp_store0 rfl rfl _ _ _ rfl rfl bx [.int .i64 m.frm, .slice a1 g1.length c1] rfl rfl _ _ rX rfl (by kernel_rfl) (by intro q hq; simp at hq; rcases hq with rfl | rfl <;> rfl) (fun u7 rX b7 => ⟨B6.trans (grown_below b7 B6.size (fun k hk => by cases hk; omega)), ?_⟩)) AllReadyH.nil
            have B7 : Below w6.heap.size w6 u7 := B6.trans (grown_below b7 B6.size (fun k hk => by cases hk; omega))
            have t1 := t1.gro b7 (by omega)
            have t2 := t2.gro b7 (by omega)
            have rY := rY.grown b7 (fun e => by have := Option.some.inj e; omega)
            have z7 := b7.size
            refine wpAnyH_ready (rs := [25]) (by kernel_rfl) (by simp) ?_
            refine AllReadyH.more (wpOp_store0 rfl rfl _ _ _ rfl rfl by0 [.int .i64 m.frm, .slice a2 g2.length c2] rfl rfl _ _ rY rfl (by kernel_rfl) (by intro q hq; simp at hq; rcases hq with rfl | rfl <;> rfl) (fun u8 rY b8 => ⟨B7.trans (grown_below b8 B7.size (fun k hk => by cases hk; omega)), ?_⟩)) AllReadyH.nil
            have B8 : Below w6.heap.size w6 u8 := B7.trans (grown_below b8 B7.size (fun k hk => by cases hk; omega))
            have t1 := t1.gro b8 (by omega)
            have t2 := t2.gro b8 (by omega)
            have rX := rX.grown b8 (fun e => by have := Option.some.inj e; omega)
            have z8 := b8.size
            refine wpAnyH_done (by kernel_rfl) ?_ _
            go_wp2_with fail
            go_meet
            case rel => exact ⟨bx, by0, _, _, _, _, rfl, rfl, rX, rY, t1.mv Mv.any, t2.mv Mv.any, B8⟩
          refine AllReadyH.more (wpOp_alloc rfl rfl _ rfl (some 10) rfl _ (zeroVote _) (fun u3 by0 rY b3 l23 h23 => ⟨below_and B2 (Nat.le_refl _) b3, ?_⟩)) AllReadyH.nil
          have B3 : Below w6.heap.size w6 u3 := below_and B2 (Nat.le_refl _) b3
          have t1 := t1.bel b3
          have z3 := b3.size
          simp only [Act.put, List.setIfInBounds_toArray, List.set_cons_zero, List.set_cons_succ]
          refine wpAnyH_ready (rs := [19, 22]) (by kernel_rfl) (by simp) ?_
          refine AllReadyH.cons (o := _) rfl (fun K hK => ?_) ?_
          · go_simp
            refine (HB'.out u3 B3).mono ?_
            rintro e u4 ⟨vR2, rfl, R2, b4⟩
            have B4 : Below w6.heap.size w6 u4 := below_and B3 (Nat.le_refl _) b4
            have t1 := t1.bel b4
            have rY := rY.below b4
            have z4 := b4.size
            try go_simp
            refine hK.out _ _ B4 (fun hHeld => ?_)
            clear hK K hHeld
            refine wpAnyH_ready (rs := [21, 22]) (by kernel_rfl) (by simp) ?_
            refine AllReadyH.cons (o := _) rfl (fun K hK => ?_) ?_
            · go_simp
              refine (HM'.out u4 _ B4 R2).mono ?_
              rintro e u5 ⟨a2, c2, rfl, t2, b5⟩
              have B5 : Below w6.heap.size w6 u5 := below_and B4 (Nat.le_refl _) b5
              have t1 := t1.bel b5
              have rY := rY.below b5
              have z5 := b5.size
              try go_simp
              refine hK.out _ _ B5 (fun hHeld => ?_)
              clear hK K hHeld
              refine wpAnyH_ready (rs := [22]) (by kernel_rfl) (by simp) ?_
              refine AllReadyH.more (wpOp_alloc rfl rfl _ rfl (some 9) rfl _ (zeroVote _) (fun u6 bx rX b6 l22 h22 => ⟨below_and B5 (Nat.le_refl _) b6, ?_⟩)) AllReadyH.nil
              have B6 : Below w6.heap.size w6 u6 := below_and B5 (Nat.le_refl _) b6
              have t1 := t1.bel b6
              have t2 := t2.bel b6
              have rY := rY.below b6
              have z6 := b6.size
              simp only [Act.put, List.setIfInBounds_toArray, List.set_cons_zero, List.set_cons_succ]
              refine wpAnyH_ready (rs := [24]) (by kernel_rfl) (by simp) ?_
              refine AllReadyH.more (wpOp_store0 rfl rfl _ _ _ rfl rfl bx [.int .i64 m.frm, .slice a1 g1.length c1] rfl rfl _ _ rX rfl (by kernel_rfl) (by intro q hq; simp at hq; rcases hq with rfl | rfl <;> rfl) (fun u7 rX b7 => ⟨B6.trans (grown_below b7 B6.size (fun k hk => by cases hk; omega)), ?_⟩)) AllReadyH.nil
              have B7 : Below w6.heap.size w6 u7 := B6.trans (grown_below b7 B6.size (fun k hk => by cases hk; omega))
              have t1 := t1.gro b7 (by omega)
              have t2 := t2.gro b7 (by omega)
              have rY := rY.grown b7 (fun e => by have := Option.some.inj e; omega)
              have z7 := b7.size
              refine wpAnyH_ready (rs := [25]) (by kernel_rfl) (by simp) ?_
              refine AllReadyH.more (wpOp_store0 rfl rfl _ _ _ rfl rfl by0 [.int .i64 m.frm, .slice a2 g2.length c2] rfl rfl _ _ rY rfl (by kernel_rfl) (by intro q hq; simp at hq; rcases hq with rfl | rfl <;> rfl) (fun u8 rY b8 => ⟨B7.trans (grown_below b8 B7.size (fun k hk => by cases hk; omega)), ?_⟩)) AllReadyH.nil
              have B8 : Below w6.heap.size w6 u8 := B7.trans (grown_below b8 B7.size (fun k hk => by cases hk; omega))
              have t1 := t1.gro b8 (by omega)
              have t2 := t2.gro b8 (by omega)
              have rX := rX.grown b8 (fun e => by have := Option.some.inj e; omega)
              have z8 := b8.size
              refine wpAnyH_done (by kernel_rfl) ?_ _
              go_wp2_with fail
              go_meet
              case rel => exact ⟨bx, by0, _, _, _, _, rfl, rfl, rX, rY, t1.mv Mv.any, t2.mv Mv.any, B8⟩
            refine AllReadyH.more (wpOp_alloc rfl rfl _ rfl (some 9) rfl _ (zeroVote _) (fun u5 bx rX b5 l22 h22 => ⟨below_and B4 (Nat.le_refl _) b5, ?_⟩)) AllReadyH.nil
            have B5 : Below w6.heap.size w6 u5 := below_and B4 (Nat.le_refl _) b5
            have R2 := R2.below b5
            have t1 := t1.bel b5
            have rY := rY.below b5
            have z5 := b5.size
            simp only [Act.put, List.setIfInBounds_toArray, List.set_cons_zero, List.set_cons_succ]
            refine wpAnyH_ready (rs := [21]) (by kernel_rfl) (by simp) ?_
            refine AllReadyH.cons (o := _) rfl (fun K hK => ?_) AllReadyH.nil
            go_simp
            refine (HM'.out u5 _ B5 R2).mono ?_
            rintro e u6 ⟨a2, c2, rfl, t2, b6⟩
            have B6 : Below w6.heap.size w6 u6 := below_and B5 (Nat.le_refl _) b6
            have t1 := t1.bel b6
            have rX := rX.below b6
            have rY := rY.below b6
            have z6 := b6.size
            try go_simp
            refine hK.out _ _ B6 (fun hHeld => ?_)
            clear hK K hHeld
            refine wpAnyH_ready (rs := [24]) (by kernel_rfl) (by simp) ?_
            refine AllReadyH.more (wpOp_store0 rfl rfl _ _ _ rfl rfl bx [.int .i64 m.frm, .slice a1 g1.length c1] rfl rfl _ _ rX rfl (by kernel_rfl) (by intro q hq; simp at hq; rcases hq with rfl | rfl <;> rfl) (fun u7 rX b7 => ⟨B6.trans (grown_below b7 B6.size (fun k hk => by cases hk; omega)), ?_⟩)) AllReadyH.nil
            have B7 : Below w6.heap.size w6 u7 := B6.trans (grown_below b7 B6.size (fun k hk => by cases hk; omega))
            have t1 := t1.gro b7 (by omega)
            have t2 := t2.gro b7 (by omega)
            have rY := rY.grown b7 (fun e => by have := Option.some.inj e; omega)
            have z7 := b7.size
            refine wpAnyH_ready (rs := [25]) (by kernel_rfl) (by simp) ?_
            refine AllReadyH.more (wpOp_store0 rfl rfl _ _ _ rfl rfl by0 [.int .i64 m.frm, .slice a2 g2.length c2] rfl rfl _ _ rY rfl (by kernel_rfl) (by intro q hq; simp at hq; rcases hq with rfl | rfl <;> rfl) (fun u8 rY b8 => ⟨B7.trans (grown_below b8 B7.size (fun k hk => by cases hk; omega)), ?_⟩)) AllReadyH.nil
            have B8 : Below w6.heap.size w6 u8 := B7.trans (grown_below b8 B7.size (fun k hk => by cases hk; omega))
            have t1 := t1.gro b8 (by omega)
            have t2 := t2.gro b8 (by omega)
            have rX := rX.grown b8 (fun e => by have := Option.some.inj e; omega)
            have z8 := b8.size
            refine wpAnyH_done (by kernel_rfl) ?_ _
            go_wp2_with fail
            go_meet
            case rel => exact ⟨bx, by0, _, _, _, _, rfl, rfl, rX, rY, t1.mv Mv.any, t2.mv Mv.any, B8⟩
          refine AllReadyH.more (wpOp_alloc rfl rfl _ rfl (some 9) rfl _ (zeroVote _) (fun u4 bx rX b4 l22 h22 => ⟨below_and B3 (Nat.le_refl _) b4, ?_⟩)) AllReadyH.nil
          have B4 : Below w6.heap.size w6 u4 := below_and B3 (Nat.le_refl _) b4
          have t1 := t1.bel b4
          have rY := rY.below b4
          have z4 := b4.size
          simp only [Act.put, List.setIfInBounds_toArray, List.set_cons_zero, List.set_cons_succ]
          refine wpAnyH_ready (rs := [19]) (by kernel_rfl) (by simp) ?_
          refine AllReadyH.cons (o := _) rfl (fun K hK => ?_) AllReadyH.nil
          go_simp
          refine (HB'.out u4 B4).mono ?_
          rintro e u5 ⟨vR2, rfl, R2, b5⟩
          have B5 : Below w6.heap.size w6 u5 := below_and B4 (Nat.le_refl _) b5
          have t1 := t1.bel b5
          have rX := rX.below b5
          have rY := rY.below b5
          have z5 := b5.size
          try go_simp
          refine hK.out _ _ B5 (fun hHeld => ?_)
          clear hK K hHeld
          refine wpAnyH_ready (rs := [21]) (by kernel_rfl) (by simp) ?_
          refine AllReadyH.cons (o := _) rfl (fun K hK => ?_) AllReadyH.nil
          go_simp
          refine (HM'.out u5 _ B5 R2).mono ?_
          rintro e u6 ⟨a2, c2, rfl, t2, b6⟩
          have B6 : Below w6.heap.size w6 u6 := below_and B5 (Nat.le_refl _) b6
          have t1 := t1.bel b6
          have rX := rX.below b6
          have rY := rY.below b6
          have z6 := b6.size
          try go_simp
          refine hK.out _ _ B6 (fun hHeld => ?_)
          clear hK K hHeld
          refine wpAnyH_ready (rs := [24]) (by kernel_rfl) (by simp) ?_
          refine AllReadyH.more (wpOp_store0 rfl rfl _ _ _ rfl rfl bx [.int .i64 m.frm, .slice a1 g1.length c1] rfl rfl _ _ rX rfl (by kernel_rfl) (by intro q hq; simp at hq; rcases hq with rfl | rfl <;> rfl) (fun u7 rX b7 => ⟨B6.trans (grown_below b7 B6.size (fun k hk => by cases hk; omega)), ?_⟩)) AllReadyH.nil
          have B7 : Below w6.heap.size w6 u7 := B6.trans (grown_below b7 B6.size (fun k hk => by cases hk; omega))
          have t1 := t1.gro b7 (by omega)
          have t2 := t2.gro b7 (by omega)
          have rY := rY.grown b7 (fun e => by have := Option.some.inj e; omega)
          have z7 := b7.size
          refine wpAnyH_ready (rs := [25]) (by kernel_rfl) (by simp) ?_
          refine AllReadyH.more (wpOp_store0 rfl rfl _ _ _ rfl rfl by0 [.int .i64 m.frm, .slice a2 g2.length c2] rfl rfl _ _ rY rfl (by kernel_rfl) (by intro q hq; simp at hq; rcases hq with rfl | rfl <;> rfl) (fun u8 rY b8 => ⟨B7.trans (grown_below b8 B7.size (fun k hk => by cases hk; omega)), ?_⟩)) AllReadyH.nil
          have B8 : Below w6.heap.size w6 u8 := B7.trans (grown_below b8 B7.size (fun k hk => by cases hk; omega))
          have t1 := t1.gro b8 (by omega)
          have t2 := t2.gro b8 (by omega)
          have rX := rX.grown b8 (fun e => by have := Option.some.inj e; omega)
          have z8 := b8.size
          refine wpAnyH_done (by kernel_rfl) ?_ _
          go_wp2_with fail
          go_meet
          case rel => exact ⟨bx, by0, _, _, _, _, rfl, rfl, rX, rY, t1.mv Mv.any, t2.mv Mv.any, B8⟩
        refine AllReadyH.more (wpOp_alloc rfl rfl _ rfl (some 9) rfl _ (zeroVote _) (fun u2 bx rX b2 l22 h22 => ⟨below_and B1 (Nat.le_refl _) b2, ?_⟩)) ?_
        · have B2 : Below w6.heap.size w6 u2 := below_and B1 (Nat.le_refl _) b2
          have R1 := R1.below b2
          have z2 := b2.size
          simp only [Act.put, List.setIfInBounds_toArray, List.set_cons_zero, List.set_cons_succ]
          refine wpAnyH_ready (rs := [10, 23]) (by kernel_rfl) (by simp) ?_
          refine AllReadyH.cons (o := _) rfl (fun K hK => ?_) ?_
          · go_simp
            refine (HM.out u2 _ B2 R1).mono ?_
            rintro e u3 ⟨a1, c1, rfl, t1, b3⟩
            have B3 : Below w6.heap.size w6 u3 := below_and B2 (Nat.le_refl _) b3
            have rX := rX.below b3
            have z3 := b3.size
            try go_simp
            refine hK.out _ _ B3 (fun hHeld => ?_)
            clear hK K hHeld
            refine wpAnyH_ready (rs := [19, 23]) (by kernel_rfl) (by simp) ?_
            refine AllReadyH.cons (o := _) rfl (fun K hK => ?_) ?_
            · go_simp
              refine (HB'.out u3 B3).mono ?_
              rintro e u4 ⟨vR2, rfl, R2, b4⟩
              have B4 : Below w6.heap.size w6 u4 := below_and B3 (Nat.le_refl _) b4
              have t1 := t1.bel b4
              have rX := rX.below b4
              have z4 := b4.size
              try go_simp
              refine hK.out _ _ B4 (fun hHeld => ?_)
              clear hK K hHeld
              refine wpAnyH_ready (rs := [21, 23]) (by kernel_rfl) (by simp) ?_
              refine AllReadyH.cons (o := _) rfl (fun K hK => ?_) ?_
              · go_simp
                refine (HM'.out u4 _ B4 R2).mono ?_
                rintro e u5 ⟨a2, c2, rfl, t2, b5⟩
                have B5 : Below w6.heap.size w6 u5 := below_and B4 (Nat.le_refl _) b5
                have t1 := t1.bel b5
                have rX := rX.below b5
                have z5 := b5.size
                try go_simp
                refine hK.out _ _ B5 (fun hHeld => ?_)
                clear hK K hHeld
                refine wpAnyH_ready (rs := [23]) (by kernel_rfl) (by simp) ?_
                refine AllReadyH.more (wpOp_alloc rfl rfl _ rfl (some 10) rfl _ (zeroVote _) (fun u6 by0 rY b6 l23 h23 => ⟨below_and B5 (Nat.le_refl _) b6, ?_⟩)) AllReadyH.nil
                have B6 : Below w6.heap.size w6 u6 := below_and B5 (Nat.le_refl _) b6
                have t1 := t1.bel b6
                have t2 := t2.bel b6
                have rX := rX.below b6
                have z6 := b6.size
                simp only [Act.put, List.setIfInBounds_toArray, List.set_cons_zero, List.set_cons_succ]
                refine wpAnyH_ready (rs := [24]) (by kernel_rfl) (by simp) ?_
                refine AllReadyH.more (wpOp_store0 rfl rfl _ _ _ rfl rfl bx [.int .i64 m.frm, .slice a1 g1.length c1] rfl rfl _ _ rX rfl (by kernel_rfl) (by intro q hq; simp at hq; rcases hq with rfl | rfl <;> rfl) (fun u7 rX b7 => ⟨B6.trans (grown_below b7 B6.size (fun k hk => by cases hk; omega)), ?_⟩)) AllReadyH.nil
                have B7 : Below w6.heap.size w6 u7 := B6.trans (grown_below b7 B6.size (fun k hk => by cases hk; omega))
                have t1 := t1.gro b7 (by omega)
                have t2 := t2.gro b7 (by omega)
                have rY := rY.grown b7 (fun e => by have := Option.some.inj e; omega)
                have z7 := b7.size
                refine wpAnyH_ready (rs := [25]) (by kernel_rfl) (by simp) ?_
                refine AllReadyH.more (wpOp_store0 rfl rfl _ _ _ rfl rfl by0 [.int .i64 m.frm, .slice a2 g2.length c2] rfl rfl _ _ rY rfl (by kernel_rfl) (by intro q hq; simp at hq; rcases hq with rfl | rfl <;> rfl) (fun u8 rY b8 => ⟨B7.trans (grown_below b8 B7.size (fun k hk => by cases hk; omega)), ?_⟩)) AllReadyH.nil
                have B8 : Below w6.heap.size w6 u8 := B7.trans (grown_below b8 B7.size (fun k hk => by cases hk; omega))
                have t1 := t1.gro b8 (by omega)
                have t2 := t2.gro b8 (by omega)
                have rX := rX.grown b8 (fun e => by have := Option.some.inj e; omega)
                have z8 := b8.size
                refine wpAnyH_done (by kernel_rfl) ?_ _
                go_wp2_with fail
                go_meet
                case rel => exact ⟨bx, by0, _, _, _, _, rfl, rfl, rX, rY, t1.mv Mv.any, t2.mv Mv.any, B8⟩
              refine AllReadyH.more (wpOp_alloc rfl rfl _ rfl (some 10) rfl _ (zeroVote _) (fun u5 by0 rY b5 l23 h23 => ⟨below_and B4 (Nat.le_refl _) b5, ?_⟩)) AllReadyH.nil
              have B5 : Below w6.heap.size w6 u5 := below_and B4 (Nat.le_refl _) b5
              have R2 := R2.below b5
              have t1 := t1.bel b5
              have rX := rX.below b5
              have z5 := b5.size
              simp only [Act.put, List.setIfInBounds_toArray, List.set_cons_zero, List.set_cons_succ]
              refine wpAnyH_ready (rs := [21]) (by kernel_rfl) (by simp) ?_
              refine AllReadyH.cons (o := _) rfl (fun K hK => ?_) AllReadyH.nil
              go_simp
              refine (HM'.out u5 _ B5 R2).mono ?_
              rintro e u6 ⟨a2, c2, rfl, t2, b6⟩
              have B6 : Below w6.heap.size w6 u6 := below_and B5 (Nat.le_refl _) b6
              have t1 := t1.bel b6
              have rX := rX.below b6
              have rY := rY.below b6
              have z6 := b6.size
              try go_simp
              refine hK.out _ _ B6 (fun hHeld => ?_)
              clear hK K hHeld
              refine wpAnyH_ready (rs := [24]) (by kernel_rfl) (by simp) ?_
              refine AllReadyH.more (wpOp_store0 rfl rfl _ _ _ rfl rfl bx [.int .i64 m.frm, .slice a1 g1.length c1] rfl rfl _ _ rX rfl (by kernel_rfl) (by intro q hq; simp at hq; rcases hq with rfl | rfl <;> rfl) (fun u7 rX b7 => ⟨B6.trans (grown_below b7 B6.size (fun k hk => by cases hk; omega)), ?_⟩)) AllReadyH.nil
              have B7 : Below w6.heap.size w6 u7 := B6.trans (grown_below b7 B6.size (fun k hk => by cases hk; omega))
              have t1 := t1.gro b7 (by omega)
              have t2 := t2.gro b7 (by omega)
              have rY := rY.grown b7 (fun e => by have := Option.some.inj e; omega)
              have z7 := b7.size
              refine wpAnyH_ready (rs := [25]) (by kernel_rfl) (by simp) ?_
              refine AllReadyH.more (wpOp_store0 rfl rfl _ _ _ rfl rfl by0 [.int .i64 m.frm, .slice a2 g2.length c2] rfl rfl _ _ rY rfl (by kernel_rfl) (by intro q hq; simp at hq; rcases hq with rfl | rfl <;> rfl) (fun u8 rY b8 => ⟨B7.trans (grown_below b8 B7.size (fun k hk => by cases hk; omega)), ?_⟩)) AllReadyH.nil
              have B8 : Below w6.heap.size w6 u8 := B7.trans (grown_below b8 B7.size (fun k hk => by cases hk; omega))
              have t1 := t1.gro b8 (by omega)
              have t2 := t2.gro b8 (by omega)
              have rX := rX.grown b8 (fun e => by have := Option.some.inj e; omega)
              have z8 := b8.size
              refine wpAnyH_done (by kernel_rfl) ?_ _
              go_wp2_with fail
              go_meet
              case rel => exact ⟨bx, by0, _, _, _, _, rfl, rfl, rX, rY, t1.mv Mv.any, t2.mv Mv.any, B8⟩
            refine AllReadyH.more (wpOp_alloc rfl rfl _ rfl (some 10) rfl _ (zeroVote _) (fun u4 by0 rY b4 l23 h23 => ⟨below_and B3 (Nat.le_refl _) b4, ?_⟩)) AllReadyH.nil
            have B4 : Below w6.heap.size w6 u4 := below_and B3 (Nat.le_refl _) b4
            have t1 := t1.bel b4
            have rX := rX.below b4
            have z4 := b4.size
            simp only [Act.put, List.setIfInBounds_toArray, List.set_cons_zero, List.set_cons_succ]
            refine wpAnyH_ready (rs := [19]) (by kernel_rfl) (by simp) ?_
            refine AllReadyH.cons (o := _) rfl (fun K hK => ?_) AllReadyH.nil
            go_simp
            refine (HB'.out u4 B4).mono ?_
            rintro e u5 ⟨vR2, rfl, R2, b5⟩
            have B5 : Below w6.heap.size w6 u5 := below_and B4 (Nat.le_refl _) b5
            have t1 := t1.bel b5
            have rX := rX.below b5
            have rY := rY.below b5
            have z5 := b5.size
            try go_simp
            refine hK.out _ _ B5 (fun hHeld => ?_)
            clear hK K hHeld
            refine wpAnyH_ready (rs := [21]) (by kernel_rfl) (by simp) ?_
            refine AllReadyH.cons (o := _) rfl (fun K hK => ?_) AllReadyH.nil
            go_simp
            refine (HM'.out u5 _ B5 R2).mono ?_
            rintro e u6 ⟨a2, c2, rfl, t2, b6⟩
            have B6 : Below w6.heap.size w6 u6 := below_and B5 (Nat.le_refl _) b6
            have t1 := t1.bel b6
            have rX := rX.below b6
            have rY := rY.below b6
            have z6 := b6.size
            try go_simp
            refine hK.out _ _ B6 (fun hHeld => ?_)
            clear hK K hHeld
            refine wpAnyH_ready (rs := [24]) (by kernel_rfl) (by simp) ?_
            refine AllReadyH.more (wpOp_store0 rfl rfl _ _ _ rfl rfl bx [.int .i64 m.frm, .slice a1 g1.length c1] rfl rfl _ _ rX rfl (by kernel_rfl) (by intro q hq; simp at hq; rcases hq with rfl | rfl <;> rfl) (fun u7 rX b7 => ⟨B6.trans (grown_below b7 B6.size (fun k hk => by cases hk; omega)), ?_⟩)) AllReadyH.nil
            have B7 : Below w6.heap.size w6 u7 := B6.trans (grown_below b7 B6.size (fun k hk => by cases hk; omega))
            have t1 := t1.gro b7 (by omega)
            have t2 := t2.gro b7 (by omega)
            have rY := rY.grown b7 (fun e => by have := Option.some.inj e; omega)
            have z7 := b7.size
            refine wpAnyH_ready (rs := [25]) (by kernel_rfl) (by simp) ?_
            refine AllReadyH.more (wpOp_store0 rfl rfl _ _ _ rfl rfl by0 [.int .i64 m.frm, .slice a2 g2.length c2] rfl rfl _ _ rY rfl (by kernel_rfl) (by intro q hq; simp at hq; rcases hq with rfl | rfl <;> rfl) (fun u8 rY b8 => ⟨B7.trans (grown_below b8 B7.size (fun k hk => by cases hk; omega)), ?_⟩)) AllReadyH.nil
            have B8 : Below w6.heap.size w6 u8 := B7.trans (grown_below b8 B7.size (fun k hk => by cases hk; omega))
            have t1 := t1.gro b8 (by omega)
            have t2 := t2.gro b8 (by omega)
            have rX := rX.grown b8 (fun e => by have := Option.some.inj e; omega)
            have z8 := b8.size
            refine wpAnyH_done (by kernel_rfl) ?_ _
            go_wp2_with fail
            go_meet
            case rel => exact ⟨bx, by0, _, _, _, _, rfl, rfl, rX, rY, t1.mv Mv.any, t2.mv Mv.any, B8⟩
          refine AllReadyH.more (wpOp_alloc rfl rfl _ rfl (some 10) rfl _ (zeroVote _) (fun u3 by0 rY b3 l23 h23 => ⟨below_and B2 (Nat.le_refl _) b3, ?_⟩)) AllReadyH.nil
          have B3 : Below w6.heap.size w6 u3 := below_and B2 (Nat.le_refl _) b3
          have R1 := R1.below b3
          have rX := rX.below b3
          have z3 := b3.size
          simp only [Act.put, List.setIfInBounds_toArray, List.set_cons_zero, List.set_cons_succ]
          refine wpAnyH_ready (rs := [10]) (by kernel_rfl) (by simp) ?_
          refine AllReadyH.cons (o := _) rfl (fun K hK => ?_) AllReadyH.nil
          go_simp
          refine (HM.out u3 _ B3 R1).mono ?_
          rintro e u4 ⟨a1, c1, rfl, t1, b4⟩
          have B4 : Below w6.heap.size w6 u4 := below_and B3 (Nat.le_refl _) b4
          have rX := rX.below b4
          have rY := rY.below b4
          have z4 := b4.size
          try go_simp
          refine hK.out _ _ B4 (fun hHeld => ?_)
          clear hK K hHeld
          refine wpAnyH_ready (rs := [19]) (by kernel_rfl) (by simp) ?_
          refine AllReadyH.cons (o := _) rfl (fun K hK => ?_) AllReadyH.nil
          go_simp
          refine (HB'.out u4 B4).mono ?_
          rintro e u5 ⟨vR2, rfl, R2, b5⟩
          have B5 : Below w6.heap.size w6 u5 := below_and B4 (Nat.le_refl _) b5
          have t1 := t1.bel b5
          have rX := rX.below b5
          have rY := rY.below b5
          have z5 := b5.size
          try go_simp
          refine hK.out _ _ B5 (fun hHeld => ?_)
          clear hK K hHeld
          refine wpAnyH_ready (rs := [21]) (by kernel_rfl) (by simp) ?_
          refine AllReadyH.cons (o := _) rfl (fun K hK => ?_) AllReadyH.nil
          go_simp
          refine (HM'.out u5 _ B5 R2).mono ?_
          rintro e u6 ⟨a2, c2, rfl, t2, b6⟩
          have B6 : Below w6.heap.size w6 u6 := below_and B5 (Nat.le_refl _) b6
          have t1 := t1.bel b6
          have rX := rX.below b6
          have rY := rY.below b6
          have z6 := b6.size
          try go_simp
          refine hK.out _ _ B6 (fun hHeld => ?_)
          clear hK K hHeld
          refine wpAnyH_ready (rs := [24]) (by kernel_rfl) (by simp) ?_
          refine AllReadyH.more (wpOp_store0 rfl rfl _ _ _ rfl rfl bx [.int .i64 m.frm, .slice a1 g1.length c1] rfl rfl _ _ rX rfl (by kernel_rfl) (by intro q hq; simp at hq; rcases hq with rfl | rfl <;> rfl) (fun u7 rX b7 => ⟨B6.trans (grown_below b7 B6.size (fun k hk => by cases hk; omega)), ?_⟩)) AllReadyH.nil
          have B7 : Below w6.heap.size w6 u7 := B6.trans (grown_below b7 B6.size (fun k hk => by cases hk; omega))
          have t1 := t1.gro b7 (by omega)
          have t2 := t2.gro b7 (by omega)
          have rY := rY.grown b7 (fun e => by have := Option.some.inj e; omega)
          have z7 := b7.size
          refine wpAnyH_ready (rs := [25]) (by kernel_rfl) (by simp) ?_
          refine AllReadyH.more (wpOp_store0 rfl rfl _ _ _ rfl rfl by0 [.int .i64 m.frm, .slice a2 g2.length c2] rfl rfl _ _ rY rfl (by kernel_rfl) (by intro q hq; simp at hq; rcases hq with rfl | rfl <;> rfl) (fun u8 rY b8 => ⟨B7.trans (grown_below b8 B7.size (fun k hk => by cases hk; omega)), ?_⟩)) AllReadyH.nil
          have B8 : Below w6.heap.size w6 u8 := B7.trans (grown_below b8 B7.size (fun k hk => by cases hk; omega))
          have t1 := t1.gro b8 (by omega)
          have t2 := t2.gro b8 (by omega)
          have rX := rX.grown b8 (fun e => by have := Option.some.inj e; omega)
          have z8 := b8.size
          refine wpAnyH_done (by kernel_rfl) ?_ _
          go_wp2_with fail
          go_meet
          case rel => exact ⟨bx, by0, _, _, _, _, rfl, rfl, rX, rY, t1.mv Mv.any, t2.mv Mv.any, B8⟩
        refine AllReadyH.more (wpOp_alloc rfl rfl _ rfl (some 10) rfl _ (zeroVote _) (fun u2 by0 rY b2 l23 h23 => ⟨below_and B1 (Nat.le_refl _) b2, ?_⟩)) AllReadyH.nil
        have B2 : Below w6.heap.size w6 u2 := below_and B1 (Nat.le_refl _) b2
        have R1 := R1.below b2
        have z2 := b2.size
        simp only [Act.put, List.setIfInBounds_toArray, List.set_cons_zero, List.set_cons_succ]
        refine wpAnyH_ready (rs := [10, 22]) (by kernel_rfl) (by simp) ?_
        refine AllReadyH.cons (o := _) rfl (fun K hK => ?_) ?_
        · go_simp
          refine (HM.out u2 _ B2 R1).mono ?_
          rintro e u3 ⟨a1, c1, rfl, t1, b3⟩
          have B3 : Below w6.heap.size w6 u3 := below_and B2 (Nat.le_refl _) b3
          have rY := rY.below b3
          have z3 := b3.size
          try go_simp
          refine hK.out _ _ B3 (fun hHeld => ?_)
          clear hK K hHeld
          refine wpAnyH_ready (rs := [19, 22]) (by kernel_rfl) (by simp) ?_
          refine AllReadyH.cons (o := _) rfl (fun K hK => ?_) ?_
          · go_simp
            refine (HB'.out u3 B3).mono ?_
            rintro e u4 ⟨vR2, rfl, R2, b4⟩
            have B4 : Below w6.heap.size w6 u4 := below_and B3 (Nat.le_refl _) b4
            have t1 := t1.bel b4
            have rY := rY.below b4
            have z4 := b4.size
            try go_simp
            refine hK.out _ _ B4 (fun hHeld => ?_)
            clear hK K hHeld
            refine wpAnyH_ready (rs := [21, 22]) (by kernel_rfl) (by simp) ?_
            refine AllReadyH.cons (o := _) rfl (fun K hK => ?_) ?_
            · go_simp
              refine (HM'.out u4 _ B4 R2).mono ?_
              rintro e u5 ⟨a2, c2, rfl, t2, b5⟩
              have B5 : Below w6.heap.size w6 u5 := below_and B4 (Nat.le_refl _) b5
              have t1 := t1.bel b5
              have rY := rY.below b5
              have z5 := b5.size
              try go_simp
              refine hK.out _ _ B5 (fun hHeld => ?_)
              clear hK K hHeld
              refine wpAnyH_ready (rs := [22]) (by kernel_rfl) (by simp) ?_
              refine AllReadyH.more (wpOp_alloc rfl rfl _ rfl (some 9) rfl _ (zeroVote _) (fun u6 bx rX b6 l22 h22 => ⟨below_and B5 (Nat.le_refl _) b6, ?_⟩)) AllReadyH.nil
              have B6 : Below w6.heap.size w6 u6 := below_and B5 (Nat.le_refl _) b6
              have t1 := t1.bel b6
              have t2 := t2.bel b6
              have rY := rY.below b6
              have z6 := b6.size
              simp only [Act.put, List.setIfInBounds_toArray, List.set_cons_zero, List.set_cons_succ]
              refine wpAnyH_ready (rs := [24]) (by kernel_rfl) (by simp) ?_
              refine AllReadyH.more (wpOp_store0 rfl rfl _ _ _ rfl rfl bx [.int .i64 m.frm, .slice a1 g1.length c1] rfl rfl _ _ rX rfl (by kernel_rfl) (by intro q hq; simp at hq; rcases hq with rfl | rfl <;> rfl) (fun u7 rX b7 => ⟨B6.trans (grown_below b7 B6.size (fun k hk => by cases hk; omega)), ?_⟩)) AllReadyH.nil
              have B7 : Below w6.heap.size w6 u7 := B6.trans (grown_below b7 B6.size (fun k hk => by cases hk; omega))
              have t1 := t1.gro b7 (by omega)
              have t2 := t2.gro b7 (by omega)
              have rY := rY.grown b7 (fun e => by have := Option.some.inj e; omega)
              have z7 := b7.size
              refine wpAnyH_ready (rs := [25]) (by kernel_rfl) (by simp) ?_
              refine AllReadyH.more (wpOp_store0 rfl rfl _ _ _ rfl rfl by0 [.int .i64 m.frm, .slice a2 g2.length c2] rfl rfl _ _ rY rfl (by kernel_rfl) (by intro q hq; simp at hq; rcases hq with rfl | rfl <;> rfl) (fun u8 rY b8 => ⟨B7.trans (grown_below b8 B7.size (fun k hk => by cases hk; omega)), ?_⟩)) AllReadyH.nil
              have B8 : Below w6.heap.size w6 u8 := B7.trans (grown_below b8 B7.size (fun k hk => by cases hk; omega))
              have t1 := t1.gro b8 (by omega)
              have t2 := t2.gro b8 (by omega)
              have rX := rX.grown b8 (fun e => by have := Option.some.inj e; omega)
              have z8 := b8.size
              refine wpAnyH_done (by kernel_rfl) ?_ _
              go_wp2_with fail
              go_meet
              case rel => exact ⟨bx, by0, _, _, _, _, rfl, rfl, rX, rY, t1.mv Mv.any, t2.mv Mv.any, B8⟩
            refine AllReadyH.more (wpOp_alloc rfl rfl _ rfl (some 9) rfl _ (zeroVote _) (fun u5 bx rX b5 l22 h22 => ⟨below_and B4 (Nat.le_refl _) b5, ?_⟩)) AllReadyH.nil
            have B5 : Below w6.heap.size w6 u5 := below_and B4 (Nat.le_refl _) b5
            have R2 := R2.below b5
            have t1 := t1.bel b5
            have rY := rY.below b5
            have z5 := b5.size
            simp only [Act.put, List.setIfInBounds_toArray, List.set_cons_zero, List.set_cons_succ]
            refine wpAnyH_ready (rs := [21]) (by kernel_rfl) (by simp) ?_
            refine AllReadyH.cons (o := _) rfl (fun K hK => ?_) AllReadyH.nil
            go_simp
            refine (HM'.out u5 _ B5 R2).mono ?_
            rintro e u6 ⟨a2, c2, rfl, t2, b6⟩
            have B6 : Below w6.heap.size w6 u6 := below_and B5 (Nat.le_refl _) b6
            have t1 := t1.bel b6
            have rX := rX.below b6
            have rY := rY.below b6
            have z6 := b6.size
            try go_simp
            refine hK.out _ _ B6 (fun hHeld => ?_)
            clear hK K hHeld
            refine wpAnyH_ready (rs := [24]) (by kernel_rfl) (by simp) ?_
            refine AllReadyH.more (wpOp_store0 rfl rfl _ _ _ rfl rfl bx [.int .i64 m.frm, .slice a1 g1.length c1] rfl rfl _ _ rX rfl (by kernel_rfl) (by intro q hq; simp at hq; rcases hq with rfl | rfl <;> rfl) (fun u7 rX b7 => ⟨B6.trans (grown_below b7 B6.size (fun k hk => by cases hk; omega)), ?_⟩)) AllReadyH.nil
            have B7 : Below w6.heap.size w6 u7 := B6.trans (grown_below b7 B6.size (fun k hk => by cases hk; omega))
            have t1 := t1.gro b7 (by omega)
            have t2 := t2.gro b7 (by omega)
            have rY := rY.grown b7 (fun e => by have := Option.some.inj e; omega)
            have z7 := b7.size
            refine wpAnyH_ready (rs := [25]) (by kernel_rfl) (by simp) ?_
            refine AllReadyH.more (wpOp_store0 rfl rfl _ _ _ rfl rfl by0 [.int .i64 m.frm, .slice a2 g2.length c2] rfl rfl _ _ rY rfl (by kernel_rfl) (by intro q hq; simp at hq; rcases hq with rfl | rfl <;> rfl) (fun u8 rY b8 => ⟨B7.trans (grown_below b8 B7.size (fun k hk => by cases hk; omega)), ?_⟩)) AllReadyH.nil
            have B8 : Below w6.heap.size w6 u8 := B7.trans (grown_below b8 B7.size (fun k hk => by cases hk; omega))
            have t1 := t1.gro b8 (by omega)
            have t2 := t2.gro b8 (by omega)
            have rX := rX.grown b8 (fun e => by have := Option.some.inj e; omega)
            have z8 := b8.size
            refine wpAnyH_done (by kernel_rfl) ?_ _
            go_wp2_with fail
            go_meet
            case rel => exact ⟨bx, by0, _, _, _, _, rfl, rfl, rX, rY, t1.mv Mv.any, t2.mv Mv.any, B8⟩
          refine AllReadyH.more (wpOp_alloc rfl rfl _ rfl (some 9) rfl _ (zeroVote _) (fun u4 bx rX b4 l22 h22 => ⟨below_and B3 (Nat.le_refl _) b4, ?_⟩)) AllReadyH.nil
          have B4 : Below w6.heap.size w6 u4 := below_and B3 (Nat.le_refl _) b4
          have t1 := t1.bel b4
          have rY := rY.below b4
          have z4 := b4.size
          simp only [Act.put, List.setIfInBounds_toArray, List.set_cons_zero, List.set_cons_succ]
          refine wpAnyH_ready (rs := [19]) (by kernel_rfl) (by simp) ?_
          refine AllReadyH.cons (o := _) rfl (fun K hK => ?_) AllReadyH.nil
          go_simp
          refine (HB'.out u4 B4).mono ?_
          rintro e u5 ⟨vR2, rfl, R2, b5⟩
          have B5 : Below w6.heap.size w6 u5 := below_and B4 (Nat.le_refl _) b5
          have t1 := t1.bel b5
          have rX := rX.below b5
          have rY := rY.below b5
          have z5 := b5.size
          try go_simp
          refine hK.out _ _ B5 (fun hHeld => ?_)
          clear hK K hHeld
          refine wpAnyH_ready (rs := [21]) (by kernel_rfl) (by simp) ?_
          refine AllReadyH.cons (o := _) rfl (fun K hK => ?_) AllReadyH.nil
          go_simp
          refine (HM'.out u5 _ B5 R2).mono ?_
          rintro e u6 ⟨a2, c2, rfl, t2, b6⟩
          have B6 : Below w6.heap.size w6 u6 := below_and B5 (Nat.le_refl _) b6
          have t1 := t1.bel b6
          have rX := rX.below b6
          have rY := rY.below b6
          have z6 := b6.size
          try go_simp
          refine hK.out _ _ B6 (fun hHeld => ?_)
          clear hK K hHeld
          refine wpAnyH_ready (rs := [24]) (by kernel_rfl) (by simp) ?_
          refine AllReadyH.more (wpOp_store0 rfl rfl _ _ _ rfl rfl bx [.int .i64 m.frm, .slice a1 g1.length c1] rfl rfl _ _ rX rfl (by kernel_rfl) (by intro q hq; simp at hq; rcases hq with rfl | rfl <;> rfl) (fun u7 rX b7 => ⟨B6.trans (grown_below b7 B6.size (fun k hk => by cases hk; omega)), ?_⟩)) AllReadyH.nil
          have B7 : Below w6.heap.size w6 u7 := B6.trans (grown_below b7 B6.size (fun k hk => by cases hk; omega))
          have t1 := t1.gro b7 (by omega)
          have t2 := t2.gro b7 (by omega)
          have rY := rY.grown b7 (fun e => by have := Option.some.inj e; omega)
          have z7 := b7.size
          refine wpAnyH_ready (rs := [25]) (by kernel_rfl) (by simp) ?_
          refine AllReadyH.more (wpOp_store0 rfl rfl _ _ _ rfl rfl by0 [.int .i64 m.frm, .slice a2 g2.length c2] rfl rfl _ _ rY rfl (by kernel_rfl) (by intro q hq; simp at hq; rcases hq with rfl | rfl <;> rfl) (fun u8 rY b8 => ⟨B7.trans (grown_below b8 B7.size (fun k hk => by cases hk; omega)), ?_⟩)) AllReadyH.nil
          have B8 : Below w6.heap.size w6 u8 := B7.trans (grown_below b8 B7.size (fun k hk => by cases hk; omega))
          have t1 := t1.gro b8 (by omega)
          have t2 := t2.gro b8 (by omega)
          have rX := rX.grown b8 (fun e => by have := Option.some.inj e; omega)
          have z8 := b8.size
          refine wpAnyH_done (by kernel_rfl) ?_ _
          go_wp2_with fail
          go_meet
          case rel => exact ⟨bx, by0, _, _, _, _, rfl, rfl, rX, rY, t1.mv Mv.any, t2.mv Mv.any, B8⟩
        refine AllReadyH.more (wpOp_alloc rfl rfl _ rfl (some 9) rfl _ (zeroVote _) (fun u3 bx rX b3 l22 h22 => ⟨below_and B2 (Nat.le_refl _) b3, ?_⟩)) AllReadyH.nil
        have B3 : Below w6.heap.size w6 u3 := below_and B2 (Nat.le_refl _) b3
        have R1 := R1.below b3
        have rY := rY.below b3
        have z3 := b3.size
        simp only [Act.put, List.setIfInBounds_toArray, List.set_cons_zero, List.set_cons_succ]
        refine wpAnyH_ready (rs := [10]) (by kernel_rfl) (by simp) ?_
        refine AllReadyH.cons (o := _) rfl (fun K hK => ?_) AllReadyH.nil
        go_simp
        refine (HM.out u3 _ B3 R1).mono ?_
        rintro e u4 ⟨a1, c1, rfl, t1, b4⟩
        have B4 : Below w6.heap.size w6 u4 := below_and B3 (Nat.le_refl _) b4
        have rX := rX.below b4
        have rY := rY.below b4
        have z4 := b4.size
        try go_simp
        refine hK.out _ _ B4 (fun hHeld => ?_)
        clear hK K hHeld
        refine wpAnyH_ready (rs := [19]) (by kernel_rfl) (by simp) ?_
        refine AllReadyH.cons (o := _) rfl (fun K hK => ?_) AllReadyH.nil
        go_simp
        refine (HB'.out u4 B4).mono ?_
        rintro e u5 ⟨vR2, rfl, R2, b5⟩
        have B5 : Below w6.heap.size w6 u5 := below_and B4 (Nat.le_refl _) b5
        have t1 := t1.bel b5
        have rX := rX.below b5
        have rY := rY.below b5
        have z5 := b5.size
        try go_simp
        refine hK.out _ _ B5 (fun hHeld => ?_)
        clear hK K hHeld
        refine wpAnyH_ready (rs := [21]) (by kernel_rfl) (by simp) ?_
        refine AllReadyH.cons (o := _) rfl (fun K hK => ?_) AllReadyH.nil
        go_simp
        refine (HM'.out u5 _ B5 R2).mono ?_
        rintro e u6 ⟨a2, c2, rfl, t2, b6⟩
        have B6 : Below w6.heap.size w6 u6 := below_and B5 (Nat.le_refl _) b6
        have t1 := t1.bel b6
        have rX := rX.below b6
        have rY := rY.below b6
        have z6 := b6.size
        try go_simp
        refine hK.out _ _ B6 (fun hHeld => ?_)
        clear hK K hHeld
        refine wpAnyH_ready (rs := [24]) (by kernel_rfl) (by simp) ?_
        refine AllReadyH.more (wpOp_store0 rfl rfl _ _ _ rfl rfl bx [.int .i64 m.frm, .slice a1 g1.length c1] rfl rfl _ _ rX rfl (by kernel_rfl) (by intro q hq; simp at hq; rcases hq with rfl | rfl <;> rfl) (fun u7 rX b7 => ⟨B6.trans (grown_below b7 B6.size (fun k hk => by cases hk; omega)), ?_⟩)) AllReadyH.nil
        have B7 : Below w6.heap.size w6 u7 := B6.trans (grown_below b7 B6.size (fun k hk => by cases hk; omega))
        have t1 := t1.gro b7 (by omega)
        have t2 := t2.gro b7 (by omega)
        have rY := rY.grown b7 (fun e => by have := Option.some.inj e; omega)
        have z7 := b7.size
        refine wpAnyH_ready (rs := [25]) (by kernel_rfl) (by simp) ?_
        refine AllReadyH.more (wpOp_store0 rfl rfl _ _ _ rfl rfl by0 [.int .i64 m.frm, .slice a2 g2.length c2] rfl rfl _ _ rY rfl (by kernel_rfl) (by intro q hq; simp at hq; rcases hq with rfl | rfl <;> rfl) (fun u8 rY b8 => ⟨B7.trans (grown_below b8 B7.size (fun k hk => by cases hk; omega)), ?_⟩)) AllReadyH.nil
        have B8 : Below w6.heap.size w6 u8 := B7.trans (grown_below b8 B7.size (fun k hk => by cases hk; omega))
        have t1 := t1.gro b8 (by omega)
        have t2 := t2.gro b8 (by omega)
        have rX := rX.grown b8 (fun e => by have := Option.some.inj e; omega)
        have z8 := b8.size
        refine wpAnyH_done (by kernel_rfl) ?_ _
        go_wp2_with fail
        go_meet
        case rel => exact ⟨bx, by0, _, _, _, _, rfl, rfl, rX, rY, t1.mv Mv.any, t2.mv Mv.any, B8⟩
      refine AllReadyH.more (wpOp_alloc rfl rfl _ rfl (some 9) rfl _ (zeroVote _) (fun u1 bx rX b1 l22 h22 => ⟨below_and B0 (Nat.le_refl _) b1, ?_⟩)) ?_
      · have B1 : Below w6.heap.size w6 u1 := below_and B0 (Nat.le_refl _) b1
        have z1 := b1.size
        simp only [Act.put, List.setIfInBounds_toArray, List.set_cons_zero, List.set_cons_succ]
        refine wpAnyH_ready (rs := [8, 23]) (by kernel_rfl) (by simp) ?_
        refine AllReadyH.cons (o := _) rfl (fun K hK => ?_) ?_
        · go_simp
          refine (HB.out u1 B1).mono ?_
          rintro e u2 ⟨vR1, rfl, R1, b2⟩
          have B2 : Below w6.heap.size w6 u2 := below_and B1 (Nat.le_refl _) b2
          have rX := rX.below b2
          have z2 := b2.size
          try go_simp
          refine hK.out _ _ B2 (fun hHeld => ?_)
          clear hK K hHeld
          refine wpAnyH_ready (rs := [10, 23]) (by kernel_rfl) (by simp) ?_
          refine AllReadyH.cons (o := _) rfl (fun K hK => ?_) ?_
          · go_simp
            refine (HM.out u2 _ B2 R1).mono ?_
            rintro e u3 ⟨a1, c1, rfl, t1, b3⟩
            have B3 : Below w6.heap.size w6 u3 := below_and B2 (Nat.le_refl _) b3
            have rX := rX.below b3
            have z3 := b3.size
            try go_simp
            refine hK.out _ _ B3 (fun hHeld => ?_)
            clear hK K hHeld
            refine wpAnyH_ready (rs := [19, 23]) (by kernel_rfl) (by simp) ?_
            refine AllReadyH.cons (o := _) rfl (fun K hK => ?_) ?_
            · go_simp
              refine (HB'.out u3 B3).mono ?_
              rintro e u4 ⟨vR2, rfl, R2, b4⟩
              have B4 : Below w6.heap.size w6 u4 := below_and B3 (Nat.le_refl _) b4
              have t1 := t1.bel b4
              have rX := rX.below b4
              have z4 := b4.size
              try go_simp
              refine hK.out _ _ B4 (fun hHeld => ?_)
              clear hK K hHeld
              refine wpAnyH_ready (rs := [21, 23]) (by kernel_rfl) (by simp) ?_
              refine AllReadyH.cons (o := _) rfl (fun K hK => ?_) ?_
              · go_simp
                refine (HM'.out u4 _ B4 R2).mono ?_
                rintro e u5 ⟨a2, c2, rfl, t2, b5⟩
                have B5 : Below w6.heap.size w6 u5 := below_and B4 (Nat.le_refl _) b5
                have t1 := t1.bel b5
                have rX := rX.below b5
                have z5 := b5.size
                try go_simp
                refine hK.out _ _ B5 (fun hHeld => ?_)
                clear hK K hHeld
                refine wpAnyH_ready (rs := [23]) (by kernel_rfl) (by simp) ?_
                refine AllReadyH.more (wpOp_alloc rfl rfl _ rfl (some 10) rfl _ (zeroVote _) (fun u6 by0 rY b6 l23 h23 => ⟨below_and B5 (Nat.le_refl _) b6, ?_⟩)) AllReadyH.nil
                have B6 : Below w6.heap.size w6 u6 := below_and B5 (Nat.le_refl _) b6
                have t1 := t1.bel b6
                have t2 := t2.bel b6
                have rX := rX.below b6
                have z6 := b6.size
                simp only [Act.put, List.setIfInBounds_toArray, List.set_cons_zero, List.set_cons_succ]
                refine wpAnyH_ready (rs := [24]) (by kernel_rfl) (by simp) ?_
                refine AllReadyH.more (wpOp_store0 rfl rfl _ _ _ rfl rfl bx [.int .i64 m.frm, .slice a1 g1.length c1] rfl rfl _ _ rX rfl (by kernel_rfl) (by intro q hq; simp at hq; rcases hq with rfl | rfl <;> rfl) (fun u7 rX b7 => ⟨B6.trans (grown_below b7 B6.size (fun k hk => by cases hk; omega)), ?_⟩)) AllReadyH.nil
                have B7 : Below w6.heap.size w6 u7 := B6.trans (grown_below b7 B6.size (fun k hk => by cases hk; omega))
                have t1 := t1.gro b7 (by omega)
                have t2 := t2.gro b7 (by omega)
                have rY := rY.grown b7 (fun e => by have := Option.some.inj e; omega)
                have z7 := b7.size
                refine wpAnyH_ready (rs := [25]) (by kernel_rfl) (by simp) ?_
                refine AllReadyH.more (wpOp_store0 rfl rfl _ _ _ rfl rfl by0 [.int .i64 m.frm, .slice a2 g2.length c2] rfl rfl _ _ rY rfl (by kernel_rfl) (by intro q hq; simp at hq; rcases hq with rfl | rfl <;> rfl) (fun u8 rY b8 => ⟨B7.trans (grown_below b8 B7.size (fun k hk => by cases hk; omega)), ?_⟩)) AllReadyH.nil
                have B8 : Below w6.heap.size w6 u8 := B7.trans (grown_below b8 B7.size (fun k hk => by cases hk; omega))
                have t1 := t1.gro b8 (by omega)
                have t2 := t2.gro b8 (by omega)
                have rX := rX.grown b8 (fun e => by have := Option.some.inj e; omega)
                have z8 := b8.size
                refine wpAnyH_done (by kernel_rfl) ?_ _
                go_wp2_with fail
                go_meet
                case rel => exact ⟨bx, by0, _, _, _, _, rfl, rfl, rX, rY, t1.mv Mv.any, t2.mv Mv.any, B8⟩
              refine AllReadyH.more (wpOp_alloc rfl rfl _ rfl (some 10) rfl _ (zeroVote _) (fun u5 by0 rY b5 l23 h23 => ⟨below_and B4 (Nat.le_refl _) b5, ?_⟩)) AllReadyH.nil
              have B5 : Below w6.heap.size w6 u5 := below_and B4 (Nat.le_refl _) b5
              have R2 := R2.below b5
              have t1 := t1.bel b5
              have rX := rX.below b5
              have z5 := b5.size
              simp only [Act.put, List.setIfInBounds_toArray, List.set_cons_zero, List.set_cons_succ]
              refine wpAnyH_ready (rs := [21]) (by kernel_rfl) (by simp) ?_
              refine AllReadyH.cons (o := _) rfl (fun K hK => ?_) AllReadyH.nil
              go_simp
              refine (HM'.out u5 _ B5 R2).mono ?_
              rintro e u6 ⟨a2, c2, rfl, t2, b6⟩
              have B6 : Below w6.heap.size w6 u6 := below_and B5 (Nat.le_refl _) b6
              have t1 := t1.bel b6
              have rX := rX.below b6
              have rY := rY.below b6
              have z6 := b6.size
              try go_simp
              refine hK.out _ _ B6 (fun hHeld => ?_)
              clear hK K hHeld
              refine wpAnyH_ready (rs := [24]) (by kernel_rfl) (by simp) ?_
              refine AllReadyH.more (wpOp_store0 rfl rfl _ _ _ rfl rfl bx [.int .i64 m.frm, .slice a1 g1.length c1] rfl rfl _ _ rX rfl (by kernel_rfl) (by intro q hq; simp at hq; rcases hq with rfl | rfl <;> rfl) (fun u7 rX b7 => ⟨B6.trans (grown_below b7 B6.size (fun k hk => by cases hk; omega)), ?_⟩)) AllReadyH.nil
              have B7 : Below w6.heap.size w6 u7 := B6.trans (grown_below b7 B6.size (fun k hk => by cases hk; omega))
              have t1 := t1.gro b7 (by omega)
              have t2 := t2.gro b7 (by omega)
              have rY := rY.grown b7 (fun e => by have := Option.some.inj e; omega)
              have z7 := b7.size
              refine wpAnyH_ready (rs := [25]) (by kernel_rfl) (by simp) ?_
              refine AllReadyH.more (wpOp_store0 rfl rfl _ _ _ rfl rfl by0 [.int .i64 m.frm, .slice a2 g2.length c2] rfl rfl _ _ rY rfl (by kernel_rfl) (by intro q hq; simp at hq; rcases hq with rfl | rfl <;> rfl) (fun u8 rY b8 => ⟨B7.trans (grown_below b8 B7.size (fun k hk => by cases hk; omega)), ?_⟩)) AllReadyH.nil
              have B8 : Below w6.heap.size w6 u8 := B7.trans (grown_below b8 B7.size (fun k hk => by cases hk; omega))
              have t1 := t1.gro b8 (by omega)
              have t2 := t2.gro b8 (by omega)
              have rX := rX.grown b8 (fun e => by have := Option.some.inj e; omega)
              have z8 := b8.size
              refine wpAnyH_done (by kernel_rfl) ?_ _
              go_wp2_with fail
              go_meet
              case rel => exact ⟨bx, by0, _, _, _, _, rfl, rfl, rX, rY, t1.mv Mv.any, t2.mv Mv.any, B8⟩
            refine AllReadyH.more (wpOp_alloc rfl rfl _ rfl (some 10) rfl _ (zeroVote _) (fun u4 by0 rY b4 l23 h23 => ⟨below_and B3 (Nat.le_refl _) b4, ?_⟩)) AllReadyH.nil
            have B4 : Below w6.heap.size w6 u4 := below_and B3 (Nat.le_refl _) b4
            have t1 := t1.bel b4
            have rX := rX.below b4
            have z4 := b4.size
            simp only [Act.put, List.setIfInBounds_toArray, List.set_cons_zero, List.set_cons_succ]
            refine wpAnyH_ready (rs := [19]) (by kernel_rfl) (by simp) ?_
            refine AllReadyH.cons (o := _) rfl (fun K hK => ?_) AllReadyH.nil
            go_simp
            refine (HB'.out u4 B4).mono ?_
            rintro e u5 ⟨vR2, rfl, R2, b5⟩
            have B5 : Below w6.heap.size w6 u5 := below_and B4 (Nat.le_refl _) b5
            have t1 := t1.bel b5
            have rX := rX.below b5
            have rY := rY.below b5
            have z5 := b5.size
            try go_simp
            refine hK.out _ _ B5 (fun hHeld => ?_)
            clear hK K hHeld
            refine wpAnyH_ready (rs := [21]) (by kernel_rfl) (by simp) ?_
            refine AllReadyH.cons (o := _) rfl (fun K hK => ?_) AllReadyH.nil
            go_simp
            refine (HM'.out u5 _ B5 R2).mono ?_
            rintro e u6 ⟨a2, c2, rfl, t2, b6⟩
            have B6 : Below w6.heap.size w6 u6 := below_and B5 (Nat.le_refl _) b6
            have t1 := t1.bel b6
            have rX := rX.below b6
            have rY := rY.below b6
            have z6 := b6.size
            try go_simp
            refine hK.out _ _ B6 (fun hHeld => ?_)
            clear hK K hHeld
            refine wpAnyH_ready (rs := [24]) (by kernel_rfl) (by simp) ?_
            refine AllReadyH.more (wpOp_store0 rfl rfl _ _ _ rfl rfl bx [.int .i64 m.frm, .slice a1 g1.length c1] rfl rfl _ _ rX rfl (by kernel_rfl) (by intro q hq; simp at hq; rcases hq with rfl | rfl <;> rfl) (fun u7 rX b7 => ⟨B6.trans (grown_below b7 B6.size (fun k hk => by cases hk; omega)), ?_⟩)) AllReadyH.nil
            have B7 : Below w6.heap.size w6 u7 := B6.trans (grown_below b7 B6.size (fun k hk => by cases hk; omega))
            have t1 := t1.gro b7 (by omega)
            have t2 := t2.gro b7 (by omega)
            have rY := rY.grown b7 (fun e => by have := Option.some.inj e; omega)
            have z7 := b7.size
            refine wpAnyH_ready (rs := [25]) (by kernel_rfl) (by simp) ?_
            refine AllReadyH.more (wpOp_store0 rfl rfl _ _ _ rfl rfl by0 [.int .i64 m.frm, .slice a2 g2.length c2] rfl rfl _ _ rY rfl (by kernel_rfl) (by intro q hq; simp at hq; rcases hq with rfl | rfl <;> rfl) (fun u8 rY b8 => ⟨B7.trans (grown_below b8 B7.size (fun k hk => by cases hk; omega)), ?_⟩)) AllReadyH.nil
            have B8 : Below w6.heap.size w6 u8 := B7.trans (grown_below b8 B7.size (fun k hk => by cases hk; omega))
            have t1 := t1.gro b8 (by omega)
            have t2 := t2.gro b8 (by omega)
            have rX := rX.grown b8 (fun e => by have := Option.some.inj e; omega)
            have z8 := b8.size
            refine wpAnyH_done (by kernel_rfl) ?_ _
            go_wp2_with fail
            go_meet
            case rel => exact ⟨bx, by0, _, _, _, _, rfl, rfl, rX, rY, t1.mv Mv.any, t2.mv Mv.any, B8⟩
          refine AllReadyH.more (wpOp_alloc rfl rfl _ rfl (some 10) rfl _ (zeroVote _) (fun u3 by0 rY b3 l23 h23 => ⟨below_and B2 (Nat.le_refl _) b3, ?_⟩)) AllReadyH.nil
          have B3 : Below w6.heap.size w6 u3 := below_and B2 (Nat.le_refl _) b3
          have R1 := R1.below b3
          have rX := rX.below b3
          have z3 := b3.size
          simp only [Act.put, List.setIfInBounds_toArray, List.set_cons_zero, List.set_cons_succ]
          refine wpAnyH_ready (rs := [10]) (by kernel_rfl) (by simp) ?_
          refine AllReadyH.cons (o := _) rfl (fun K hK => ?_) AllReadyH.nil
          go_simp
          refine (HM.out u3 _ B3 R1).mono ?_
          rintro e u4 ⟨a1, c1, rfl, t1, b4⟩
          have B4 : Below w6.heap.size w6 u4 := below_and B3 (Nat.le_refl _) b4
          have rX := rX.below b4
          have rY := rY.below b4
          have z4 := b4.size
          try go_simp
          refine hK.out _ _ B4 (fun hHeld => ?_)
          clear hK K hHeld
          refine wpAnyH_ready (rs := [19]) (by kernel_rfl) (by simp) ?_
          refine AllReadyH.cons (o := _) rfl (fun K hK => ?_) AllReadyH.nil
          go_simp
          refine (HB'.out u4 B4).mono ?_
          rintro e u5 ⟨vR2, rfl, R2, b5⟩
          have B5 : Below w6.heap.size w6 u5 := below_and B4 (Nat.le_refl _) b5
          have t1 := t1.bel b5
          have rX := rX.below b5
          have rY := rY.below b5
          have z5 := b5.size
          try go_simp
          refine hK.out _ _ B5 (fun hHeld => ?_)
          clear hK K hHeld
          refine wpAnyH_ready (rs := [21]) (by kernel_rfl) (by simp) ?_
          refine AllReadyH.cons (o := _) rfl (fun K hK => ?_) AllReadyH.nil
          go_simp
          refine (HM'.out u5 _ B5 R2).mono ?_
          rintro e u6 ⟨a2, c2, rfl, t2, b6⟩
          have B6 : Below w6.heap.size w6 u6 := below_and B5 (Nat.le_refl _) b6
          have t1 := t1.bel b6
          have rX := rX.below b6
          have rY := rY.below b6
          have z6 := b6.size
          try go_simp
          refine hK.out _ _ B6 (fun hHeld => ?_)
          clear hK K hHeld
          refine wpAnyH_ready (rs := [24]) (by kernel_rfl) (by simp) ?_
          refine AllReadyH.more (wpOp_store0 rfl rfl _ _ _ rfl rfl bx [.int .i64 m.frm, .slice a1 g1.length c1] rfl rfl _ _ rX rfl (by kernel_rfl) (by intro q hq; simp at hq; rcases hq with rfl | rfl <;> rfl) (fun u7 rX b7 => ⟨B6.trans (grown_below b7 B6.size (fun k hk => by cases hk; omega)), ?_⟩)) AllReadyH.nil
          have B7 : Below w6.heap.size w6 u7 := B6.trans (grown_below b7 B6.size (fun k hk => by cases hk; omega))
          have t1 := t1.gro b7 (by omega)
          have t2 := t2.gro b7 (by omega)
          have rY := rY.grown b7 (fun e => by have := Option.some.inj e; omega)
          have z7 := b7.size
          refine wpAnyH_ready (rs := [25]) (by kernel_rfl) (by simp) ?_
          refine AllReadyH.more (wpOp_store0 rfl rfl _ _ _ rfl rfl by0 [.int .i64 m.frm, .slice a2 g2.length c2] rfl rfl _ _ rY rfl (by kernel_rfl) (by intro q hq; simp at hq; rcases hq with rfl | rfl <;> rfl) (fun u8 rY b8 => ⟨B7.trans (grown_below b8 B7.size (fun k hk => by cases hk; omega)), ?_⟩)) AllReadyH.nil
          have B8 : Below w6.heap.size w6 u8 := B7.trans (grown_below b8 B7.size (fun k hk => by cases hk; omega))
          have t1 := t1.gro b8 (by omega)
          have t2 := t2.gro b8 (by omega)
          have rX := rX.grown b8 (fun e => by have := Option.some.inj e; omega)
          have z8 := b8.size
          refine wpAnyH_done (by kernel_rfl) ?_ _
          go_wp2_with fail
          go_meet
          case rel => exact ⟨bx, by0, _, _, _, _, rfl, rfl, rX, rY, t1.mv Mv.any, t2.mv Mv.any, B8⟩
        refine AllReadyH.more (wpOp_alloc rfl rfl _ rfl (some 10) rfl _ (zeroVote _) (fun u2 by0 rY b2 l23 h23 => ⟨below_and B1 (Nat.le_refl _) b2, ?_⟩)) AllReadyH.nil
        have B2 : Below w6.heap.size w6 u2 := below_and B1 (Nat.le_refl _) b2
        have rX := rX.below b2
        have z2 := b2.size
        simp only [Act.put, List.setIfInBounds_toArray, List.set_cons_zero, List.set_cons_succ]
        refine wpAnyH_ready (rs := [8]) (by kernel_rfl) (by simp) ?_
        refine AllReadyH.cons (o := _) rfl (fun K hK => ?_) AllReadyH.nil
        go_simp
        refine (HB.out u2 B2).mono ?_
        rintro e u3 ⟨vR1, rfl, R1, b3⟩
        have B3 : Below w6.heap.size w6 u3 := below_and B2 (Nat.le_refl _) b3
        have rX := rX.below b3
        have rY := rY.below b3
        have z3 := b3.size
        try go_simp
        refine hK.out _ _ B3 (fun hHeld => ?_)
        clear hK K hHeld
        refine wpAnyH_ready (rs := [10]) (by kernel_rfl) (by simp) ?_
        refine AllReadyH.cons (o := _) rfl (fun K hK => ?_) AllReadyH.nil
        go_simp
        refine (HM.out u3 _ B3 R1).mono ?_
        rintro e u4 ⟨a1, c1, rfl, t1, b4⟩
        have B4 : Below w6.heap.size w6 u4 := below_and B3 (Nat.le_refl _) b4
        have rX := rX.below b4
        have rY := rY.below b4
        have z4 := b4.size
        try go_simp
        refine hK.out _ _ B4 (fun hHeld => ?_)
        clear hK K hHeld
        refine wpAnyH_ready (rs := [19]) (by kernel_rfl) (by simp) ?_
        refine AllReadyH.cons (o := _) rfl (fun K hK => ?_) AllReadyH.nil
        go_simp
        refine (HB'.out u4 B4).mono ?_
        rintro e u5 ⟨vR2, rfl, R2, b5⟩
        have B5 : Below w6.heap.size w6 u5 := below_and B4 (Nat.le_refl _) b5
        have t1 := t1.bel b5
        have rX := rX.below b5
        have rY := rY.below b5
        have z5 := b5.size
        try go_simp
        refine hK.out _ _ B5 (fun hHeld => ?_)
        clear hK K hHeld
        refine wpAnyH_ready (rs := [21]) (by kernel_rfl) (by simp) ?_
        refine AllReadyH.cons (o := _) rfl (fun K hK => ?_) AllReadyH.nil
        go_simp
        refine (HM'.out u5 _ B5 R2).mono ?_
        rintro e u6 ⟨a2, c2, rfl, t2, b6⟩
        have B6 : Below w6.heap.size w6 u6 := below_and B5 (Nat.le_refl _) b6
        have t1 := t1.bel b6
        have rX := rX.below b6
        have rY := rY.below b6
        have z6 := b6.size
        try go_simp
        refine hK.out _ _ B6 (fun hHeld => ?_)
        clear hK K hHeld
        refine wpAnyH_ready (rs := [24]) (by kernel_rfl) (by simp) ?_
        refine AllReadyH.more (wpOp_store0 rfl rfl _ _ _ rfl rfl bx [.int .i64 m.frm, .slice a1 g1.length c1] rfl rfl _ _ rX rfl (by kernel_rfl) (by intro q hq; simp at hq; rcases hq with rfl | rfl <;> rfl) (fun u7 rX b7 => ⟨B6.trans (grown_below b7 B6.size (fun k hk => by cases hk; omega)), ?_⟩)) AllReadyH.nil
        have B7 : Below w6.heap.size w6 u7 := B6.trans (grown_below b7 B6.size (fun k hk => by cases hk; omega))
        have t1 := t1.gro b7 (by omega)
        have t2 := t2.gro b7 (by omega)
        have rY := rY.grown b7 (fun e => by have := Option.some.inj e; omega)
        have z7 := b7.size
        refine wpAnyH_ready (rs := [25]) (by kernel_rfl) (by simp) ?_
        refine AllReadyH.more (wpOp_store0 rfl rfl _ _ _ rfl rfl by0 [.int .i64 m.frm, .slice a2 g2.length c2] rfl rfl _ _ rY rfl (by kernel_rfl) (by intro q hq; simp at hq; rcases hq with rfl | rfl <;> rfl) (fun u8 rY b8 => ⟨B7.trans (grown_below b8 B7.size (fun k hk => by cases hk; omega)), ?_⟩)) AllReadyH.nil
        have B8 : Below w6.heap.size w6 u8 := B7.trans (grown_below b8 B7.size (fun k hk => by cases hk; omega))
        have t1 := t1.gro b8 (by omega)
        have t2 := t2.gro b8 (by omega)
        have rX := rX.grown b8 (fun e => by have := Option.some.inj e; omega)
        have z8 := b8.size
        refine wpAnyH_done (by kernel_rfl) ?_ _
        go_wp2_with fail
        go_meet
        case rel => exact ⟨bx, by0, _, _, _, _, rfl, rfl, rX, rY, t1.mv Mv.any, t2.mv Mv.any, B8⟩
      refine AllReadyH.more (wpOp_alloc rfl rfl _ rfl (some 10) rfl _ (zeroVote _) (fun u1 by0 rY b1 l23 h23 => ⟨below_and B0 (Nat.le_refl _) b1, ?_⟩)) AllReadyH.nil
      have B1 : Below w6.heap.size w6 u1 := below_and B0 (Nat.le_refl _) b1
      have z1 := b1.size
      simp only [Act.put, List.setIfInBounds_toArray, List.set_cons_zero, List.set_cons_succ]
      refine wpAnyH_ready (rs := [8, 22]) (by kernel_rfl) (by simp) ?_
      refine AllReadyH.cons (o := _) rfl (fun K hK => ?_) ?_
      · go_simp
        refine (HB.out u1 B1).mono ?_
        rintro e u2 ⟨vR1, rfl, R1, b2⟩
        have B2 : Below w6.heap.size w6 u2 := below_and B1 (Nat.le_refl _) b2
        have rY := rY.below b2
        have z2 := b2.size
        try go_simp
        refine hK.out _ _ B2 (fun hHeld => ?_)
        clear hK K hHeld
        refine wpAnyH_ready (rs := [10, 22]) (by kernel_rfl) (by simp) ?_
        refine AllReadyH.cons (o := _) rfl (fun K hK => ?_) ?_
        · go_simp
          refine (HM.out u2 _ B2 R1).mono ?_
          rintro e u3 ⟨a1, c1, rfl, t1, b3⟩
          have B3 : Below w6.heap.size w6 u3 := below_and B2 (Nat.le_refl _) b3
          have rY := rY.below b3
          have z3 := b3.size
          try go_simp
          refine hK.out _ _ B3 (fun hHeld => ?_)
          clear hK K hHeld
          refine wpAnyH_ready (rs := [19, 22]) (by kernel_rfl) (by simp) ?_
          refine AllReadyH.cons (o := _) rfl (fun K hK => ?_) ?_
          · go_simp
            refine (HB'.out u3 B3).mono ?_
            rintro e u4 ⟨vR2, rfl, R2, b4⟩
            have B4 : Below w6.heap.size w6 u4 := below_and B3 (Nat.le_refl _) b4
            have t1 := t1.bel b4
            have rY := rY.below b4
            have z4 := b4.size
            try go_simp
            refine hK.out _ _ B4 (fun hHeld => ?_)
            clear hK K hHeld
            refine wpAnyH_ready (rs := [21, 22]) (by kernel_rfl) (by simp) ?_
            refine AllReadyH.cons (o := _) rfl (fun K hK => ?_) ?_
            · go_simp
              refine (HM'.out u4 _ B4 R2).mono ?_
              rintro e u5 ⟨a2, c2, rfl, t2, b5⟩
              have B5 : Below w6.heap.size w6 u5 := below_and B4 (Nat.le_refl _) b5
              have t1 := t1.bel b5
              have rY := rY.below b5
              have z5 := b5.size
              try go_simp
              refine hK.out _ _ B5 (fun hHeld => ?_)
              clear hK K hHeld
              refine wpAnyH_ready (rs := [22]) (by kernel_rfl) (by simp) ?_
              refine AllReadyH.more (wpOp_alloc rfl rfl _ rfl (some 9) rfl _ (zeroVote _) (fun u6 bx rX b6 l22 h22 => ⟨below_and B5 (Nat.le_refl _) b6, ?_⟩)) AllReadyH.nil
              have B6 : Below w6.heap.size w6 u6 := below_and B5 (Nat.le_refl _) b6
              have t1 := t1.bel b6
              have t2 := t2.bel b6
              have rY := rY.below b6
              have z6 := b6.size
              simp only [Act.put, List.setIfInBounds_toArray, List.set_cons_zero, List.set_cons_succ]
              refine wpAnyH_ready (rs := [24]) (by kernel_rfl) (by simp) ?_
              refine AllReadyH.more (wpOp_store0 rfl rfl _ _ _ rfl rfl bx [.int .i64 m.frm, .slice a1 g1.length c1] rfl rfl _ _ rX rfl (by kernel_rfl) (by intro q hq; simp at hq; rcases hq with rfl | rfl <;> rfl) (fun u7 rX b7 => ⟨B6.trans (grown_below b7 B6.size (fun k hk => by cases hk; omega)), ?_⟩)) AllReadyH.nil
              have B7 : Below w6.heap.size w6 u7 := B6.trans (grown_below b7 B6.size (fun k hk => by cases hk; omega))
              have t1 := t1.gro b7 (by omega)
              have t2 := t2.gro b7 (by omega)
              have rY := rY.grown b7 (fun e => by have := Option.some.inj e; omega)
              have z7 := b7.size
              refine wpAnyH_ready (rs := [25]) (by kernel_rfl) (by simp) ?_
              refine AllReadyH.more (wpOp_store0 rfl rfl _ _ _ rfl rfl by0 [.int .i64 m.frm, .slice a2 g2.length c2] rfl rfl _ _ rY rfl (by kernel_rfl) (by intro q hq; simp at hq; rcases hq with rfl | rfl <;> rfl) (fun u8 rY b8 => ⟨B7.trans (grown_below b8 B7.size (fun k hk => by cases hk; omega)), ?_⟩)) AllReadyH.nil
              have B8 : Below w6.heap.size w6 u8 := B7.trans (grown_below b8 B7.size (fun k hk => by cases hk; omega))
              have t1 := t1.gro b8 (by omega)
              have t2 := t2.gro b8 (by omega)
              have rX := rX.grown b8 (fun e => by have := Option.some.inj e; omega)
              have z8 := b8.size
              refine wpAnyH_done (by kernel_rfl) ?_ _
              go_wp2_with fail
              go_meet
              case rel => exact ⟨bx, by0, _, _, _, _, rfl, rfl, rX, rY, t1.mv Mv.any, t2.mv Mv.any, B8⟩
            refine AllReadyH.more (wpOp_alloc rfl rfl _ rfl (some 9) rfl _ (zeroVote _) (fun u5 bx rX b5 l22 h22 => ⟨below_and B4 (Nat.le_refl _) b5, ?_⟩)) AllReadyH.nil
            have B5 : Below w6.heap.size w6 u5 := below_and B4 (Nat.le_refl _) b5
            have R2 := R2.below b5
            have t1 := t1.bel b5
            have rY := rY.below b5
            have z5 := b5.size
            simp only [Act.put, List.setIfInBounds_toArray, List.set_cons_zero, List.set_cons_succ]
            refine wpAnyH_ready (rs := [21]) (by kernel_rfl) (by simp) ?_
            refine AllReadyH.cons (o := _) rfl (fun K hK => ?_) AllReadyH.nil
            go_simp
            refine (HM'.out u5 _ B5 R2).mono ?_
            rintro e u6 ⟨a2, c2, rfl, t2, b6⟩
            have B6 : Below w6.heap.size w6 u6 := below_and B5 (Nat.le_refl _) b6
            have t1 := t1.bel b6
            have rX := rX.below b6
            have rY := rY.below b6
            have z6 := b6.size
            try go_simp
            refine hK.out _ _ B6 (fun hHeld => ?_)
            clear hK K hHeld
            refine wpAnyH_ready (rs := [24]) (by kernel_rfl) (by simp) ?_
            refine AllReadyH.more (wpOp_store0 rfl rfl _ _ _ rfl rfl bx [.int .i64 m.frm, .slice a1 g1.length c1] rfl rfl _ _ rX rfl (by kernel_rfl) (by intro q hq; simp at hq; rcases hq with rfl | rfl <;> rfl) (fun u7 rX b7 => ⟨B6.trans (grown_below b7 B6.size (fun k hk => by cases hk; omega)), ?_⟩)) AllReadyH.nil
            have B7 : Below w6.heap.size w6 u7 := B6.trans (grown_below b7 B6.size (fun k hk => by cases hk; omega))
            have t1 := t1.gro b7 (by omega)
            have t2 := t2.gro b7 (by omega)
            have rY := rY.grown b7 (fun e => by have := Option.some.inj e; omega)
            have z7 := b7.size
            refine wpAnyH_ready (rs := [25]) (by kernel_rfl) (by simp) ?_
            refine AllReadyH.more (wpOp_store0 rfl rfl _ _ _ rfl rfl by0 [.int .i64 m.frm, .slice a2 g2.length c2] rfl rfl _ _ rY rfl (by kernel_rfl) (by intro q hq; simp at hq; rcases hq with rfl | rfl <;> rfl) (fun u8 rY b8 => ⟨B7.trans (grown_below b8 B7.size (fun k hk => by cases hk; omega)), ?_⟩)) AllReadyH.nil
            have B8 : Below w6.heap.size w6 u8 := B7.trans (grown_below b8 B7.size (fun k hk => by cases hk; omega))
            have t1 := t1.gro b8 (by omega)
            have t2 := t2.gro b8 (by omega)
            have rX := rX.grown b8 (fun e => by have := Option.some.inj e; omega)
            have z8 := b8.size
            refine wpAnyH_done (by kernel_rfl) ?_ _
            go_wp2_with fail
            go_meet
            case rel => exact ⟨bx, by0, _, _, _, _, rfl, rfl, rX, rY, t1.mv Mv.any, t2.mv Mv.any, B8⟩
          refine AllReadyH.more (wpOp_alloc rfl rfl _ rfl (some 9) rfl _ (zeroVote _) (fun u4 bx rX b4 l22 h22 => ⟨below_and B3 (Nat.le_refl _) b4, ?_⟩)) AllReadyH.nil
          have B4 : Below w6.heap.size w6 u4 := below_and B3 (Nat.le_refl _) b4
          have t1 := t1.bel b4
          have rY := rY.below b4
          have z4 := b4.size
          simp only [Act.put, List.setIfInBounds_toArray, List.set_cons_zero, List.set_cons_succ]
          refine wpAnyH_ready (rs := [19]) (by kernel_rfl) (by simp) ?_
          refine AllReadyH.cons (o := _) rfl (fun K hK => ?_) AllReadyH.nil
          go_simp
          refine (HB'.out u4 B4).mono ?_
          rintro e u5 ⟨vR2, rfl, R2, b5⟩
          have B5 : Below w6.heap.size w6 u5 := below_and B4 (Nat.le_refl _) b5
          have t1 := t1.bel b5
          have rX := rX.below b5
          have rY := rY.below b5
          have z5 := b5.size
          try go_simp
          refine hK.out _ _ B5 (fun hHeld => ?_)
          clear hK K hHeld
          refine wpAnyH_ready (rs := [21]) (by kernel_rfl) (by simp) ?_
          refine AllReadyH.cons (o := _) rfl (fun K hK => ?_) AllReadyH.nil
          go_simp
          refine (HM'.out u5 _ B5 R2).mono ?_
          rintro e u6 ⟨a2, c2, rfl, t2, b6⟩
          have B6 : Below w6.heap.size w6 u6 := below_and B5 (Nat.le_refl _) b6
          have t1 := t1.bel b6
          have rX := rX.below b6
          have rY := rY.below b6
          have z6 := b6.size
          try go_simp
          refine hK.out _ _ B6 (fun hHeld => ?_)
          clear hK K hHeld
          refine wpAnyH_ready (rs := [24]) (by kernel_rfl) (by simp) ?_
          refine AllReadyH.more (wpOp_store0 rfl rfl _ _ _ rfl rfl bx [.int .i64 m.frm, .slice a1 g1.length c1] rfl rfl _ _ rX rfl (by kernel_rfl) (by intro q hq; simp at hq; rcases hq with rfl | rfl <;> rfl) (fun u7 rX b7 => ⟨B6.trans (grown_below b7 B6.size (fun k hk => by cases hk; omega)), ?_⟩)) AllReadyH.nil
          have B7 : Below w6.heap.size w6 u7 := B6.trans (grown_below b7 B6.size (fun k hk => by cases hk; omega))
          have t1 := t1.gro b7 (by omega)
          have t2 := t2.gro b7 (by omega)
          have rY := rY.grown b7 (fun e => by have := Option.some.inj e; omega)
          have z7 := b7.size
          refine wpAnyH_ready (rs := [25]) (by kernel_rfl) (by simp) ?_
          refine AllReadyH.more (wpOp_store0 rfl rfl _ _ _ rfl rfl by0 [.int .i64 m.frm, .slice a2 g2.length c2] rfl rfl _ _ rY rfl (by kernel_rfl) (by intro q hq; simp at hq; rcases hq with rfl | rfl <;> rfl) (fun u8 rY b8 => ⟨B7.trans (grown_below b8 B7.size (fun k hk => by cases hk; omega)), ?_⟩)) AllReadyH.nil
          have B8 : Below w6.heap.size w6 u8 := B7.trans (grown_below b8 B7.size (fun k hk => by cases hk; omega))
          have t1 := t1.gro b8 (by omega)
          have t2 := t2.gro b8 (by omega)
          have rX := rX.grown b8 (fun e => by have := Option.some.inj e; omega)
          have z8 := b8.size
          refine wpAnyH_done (by kernel_rfl) ?_ _
          go_wp2_with fail
          go_meet
          case rel => exact ⟨bx, by0, _, _, _, _, rfl, rfl, rX, rY, t1.mv Mv.any, t2.mv Mv.any, B8⟩
        refine AllReadyH.more (wpOp_alloc rfl rfl _ rfl (some 9) rfl _ (zeroVote _) (fun u3 bx rX b3 l22 h22 => ⟨below_and B2 (Nat.le_refl _) b3, ?_⟩)) AllReadyH.nil
        have B3 : Below w6.heap.size w6 u3 := below_and B2 (Nat.le_refl _) b3
        have R1 := R1.below b3
        have rY := rY.below b3
        have z3 := b3.size
        simp only [Act.put, List.setIfInBounds_toArray, List.set_cons_zero, List.set_cons_succ]
        refine wpAnyH_ready (rs := [10]) (by kernel_rfl) (by simp) ?_
        refine AllReadyH.cons (o := _) rfl (fun K hK => ?_) AllReadyH.nil
        go_simp
        refine (HM.out u3 _ B3 R1).mono ?_
        rintro e u4 ⟨a1, c1, rfl, t1, b4⟩
        have B4 : Below w6.heap.size w6 u4 := below_and B3 (Nat.le_refl _) b4
        have rX := rX.below b4
        have rY := rY.below b4
        have z4 := b4.size
        try go_simp
        refine hK.out _ _ B4 (fun hHeld => ?_)
        clear hK K hHeld
        refine wpAnyH_ready (rs := [19]) (by kernel_rfl) (by simp) ?_
        refine AllReadyH.cons (o := _) rfl (fun K hK => ?_) AllReadyH.nil
        go_simp
        refine (HB'.out u4 B4).mono ?_
        rintro e u5 ⟨vR2, rfl, R2, b5⟩
        have B5 : Below w6.heap.size w6 u5 := below_and B4 (Nat.le_refl _) b5
        have t1 := t1.bel b5
        have rX := rX.below b5
        have rY := rY.below b5
        have z5 := b5.size
        try go_simp
        refine hK.out _ _ B5 (fun hHeld => ?_)
        clear hK K hHeld
        refine wpAnyH_ready (rs := [21]) (by kernel_rfl) (by simp) ?_
        refine AllReadyH.cons (o := _) rfl (fun K hK => ?_) AllReadyH.nil
        go_simp
        refine (HM'.out u5 _ B5 R2).mono ?_
        rintro e u6 ⟨a2, c2, rfl, t2, b6⟩
        have B6 : Below w6.heap.size w6 u6 := below_and B5 (Nat.le_refl _) b6
        have t1 := t1.bel b6
        have rX := rX.below b6
        have rY := rY.below b6
        have z6 := b6.size
        try go_simp
        refine hK.out _ _ B6 (fun hHeld => ?_)
        clear hK K hHeld
        refine wpAnyH_ready (rs := [24]) (by kernel_rfl) (by simp) ?_
        refine AllReadyH.more (wpOp_store0 rfl rfl _ _ _ rfl rfl bx [.int .i64 m.frm, .slice a1 g1.length c1] rfl rfl _ _ rX rfl (by kernel_rfl) (by intro q hq; simp at hq; rcases hq with rfl | rfl <;> rfl) (fun u7 rX b7 => ⟨B6.trans (grown_below b7 B6.size (fun k hk => by cases hk; omega)), ?_⟩)) AllReadyH.nil
        have B7 : Below w6.heap.size w6 u7 := B6.trans (grown_below b7 B6.size (fun k hk => by cases hk; omega))
        have t1 := t1.gro b7 (by omega)
        have t2 := t2.gro b7 (by omega)
        have rY := rY.grown b7 (fun e => by have := Option.some.inj e; omega)
        have z7 := b7.size
        refine wpAnyH_ready (rs := [25]) (by kernel_rfl) (by simp) ?_
        refine AllReadyH.more (wpOp_store0 rfl rfl _ _ _ rfl rfl by0 [.int .i64 m.frm, .slice a2 g2.length c2] rfl rfl _ _ rY rfl (by kernel_rfl) (by intro q hq; simp at hq; rcases hq with rfl | rfl <;> rfl) (fun u8 rY b8 => ⟨B7.trans (grown_below b8 B7.size (fun k hk => by cases hk; omega)), ?_⟩)) AllReadyH.nil
        have B8 : Below w6.heap.size w6 u8 := B7.trans (grown_below b8 B7.size (fun k hk => by cases hk; omega))
        have t1 := t1.gro b8 (by omega)
        have t2 := t2.gro b8 (by omega)
        have rX := rX.grown b8 (fun e => by have := Option.some.inj e; omega)
        have z8 := b8.size
        refine wpAnyH_done (by kernel_rfl) ?_ _
        go_wp2_with fail
        go_meet
        case rel => exact ⟨bx, by0, _, _, _, _, rfl, rfl, rX, rY, t1.mv Mv.any, t2.mv Mv.any, B8⟩
      refine AllReadyH.more (wpOp_alloc rfl rfl _ rfl (some 9) rfl _ (zeroVote _) (fun u2 bx rX b2 l22 h22 => ⟨below_and B1 (Nat.le_refl _) b2, ?_⟩)) AllReadyH.nil
      have B2 : Below w6.heap.size w6 u2 := below_and B1 (Nat.le_refl _) b2
      have rY := rY.below b2
      have z2 := b2.size
      simp only [Act.put, List.setIfInBounds_toArray, List.set_cons_zero, List.set_cons_succ]
      refine wpAnyH_ready (rs := [8]) (by kernel_rfl) (by simp) ?_
      refine AllReadyH.cons (o := _) rfl (fun K hK => ?_) AllReadyH.nil
      go_simp
      refine (HB.out u2 B2).mono ?_
      rintro e u3 ⟨vR1, rfl, R1, b3⟩
      have B3 : Below w6.heap.size w6 u3 := below_and B2 (Nat.le_refl _) b3
      have rX := rX.below b3
      have rY := rY.below b3
      have z3 := b3.size
      try go_simp
      refine hK.out _ _ B3 (fun hHeld => ?_)
      clear hK K hHeld
      refine wpAnyH_ready (rs := [10]) (by kernel_rfl) (by simp) ?_
      refine AllReadyH.cons (o := _) rfl (fun K hK => ?_) AllReadyH.nil
      go_simp
      refine (HM.out u3 _ B3 R1).mono ?_
      rintro e u4 ⟨a1, c1, rfl, t1, b4⟩
      have B4 : Below w6.heap.size w6 u4 := below_and B3 (Nat.le_refl _) b4
      have rX := rX.below b4
      have rY := rY.below b4
      have z4 := b4.size
      try go_simp
      refine hK.out _ _ B4 (fun hHeld => ?_)
      clear hK K hHeld
      refine wpAnyH_ready (rs := [19]) (by kernel_rfl) (by simp) ?_
      refine AllReadyH.cons (o := _) rfl (fun K hK => ?_) AllReadyH.nil
      go_simp
      refine (HB'.out u4 B4).mono ?_
      rintro e u5 ⟨vR2, rfl, R2, b5⟩
      have B5 : Below w6.heap.size w6 u5 := below_and B4 (Nat.le_refl _) b5
      have t1 := t1.bel b5
      have rX := rX.below b5
      have rY := rY.below b5
      have z5 := b5.size
      try go_simp
      refine hK.out _ _ B5 (fun hHeld => ?_)
      clear hK K hHeld
      refine wpAnyH_ready (rs := [21]) (by kernel_rfl) (by simp) ?_
      refine AllReadyH.cons (o := _) rfl (fun K hK => ?_) AllReadyH.nil
      go_simp
      refine (HM'.out u5 _ B5 R2).mono ?_
      rintro e u6 ⟨a2, c2, rfl, t2, b6⟩
      have B6 : Below w6.heap.size w6 u6 := below_and B5 (Nat.le_refl _) b6
      have t1 := t1.bel b6
      have rX := rX.below b6
      have rY := rY.below b6
      have z6 := b6.size
      try go_simp
      refine hK.out _ _ B6 (fun hHeld => ?_)
      clear hK K hHeld
      refine wpAnyH_ready (rs := [24]) (by kernel_rfl) (by simp) ?_
      refine AllReadyH.more (wpOp_store0 rfl rfl _ _ _ rfl rfl bx [.int .i64 m.frm, .slice a1 g1.length c1] rfl rfl _ _ rX rfl (by kernel_rfl) (by intro q hq; simp at hq; rcases hq with rfl | rfl <;> rfl) (fun u7 rX b7 => ⟨B6.trans (grown_below b7 B6.size (fun k hk => by cases hk; omega)), ?_⟩)) AllReadyH.nil
      have B7 : Below w6.heap.size w6 u7 := B6.trans (grown_below b7 B6.size (fun k hk => by cases hk; omega))
      have t1 := t1.gro b7 (by omega)
      have t2 := t2.gro b7 (by omega)
      have rY := rY.grown b7 (fun e => by have := Option.some.inj e; omega)
      have z7 := b7.size
      refine wpAnyH_ready (rs := [25]) (by kernel_rfl) (by simp) ?_
      refine AllReadyH.more (wpOp_store0 rfl rfl _ _ _ rfl rfl by0 [.int .i64 m.frm, .slice a2 g2.length c2] rfl rfl _ _ rY rfl (by kernel_rfl) (by intro q hq; simp at hq; rcases hq with rfl | rfl <;> rfl) (fun u8 rY b8 => ⟨B7.trans (grown_below b8 B7.size (fun k hk => by cases hk; omega)), ?_⟩)) AllReadyH.nil
      have B8 : Below w6.heap.size w6 u8 := B7.trans (grown_below b8 B7.size (fun k hk => by cases hk; omega))
      have t1 := t1.gro b8 (by omega)
      have t2 := t2.gro b8 (by omega)
      have rX := rX.grown b8 (fun e => by have := Option.some.inj e; omega)
      have z8 := b8.size
      refine wpAnyH_done (by kernel_rfl) ?_ _
      go_wp2_with fail
      go_meet
      case rel => exact ⟨bx, by0, _, _, _, _, rfl, rfl, rX, rY, t1.mv Mv.any, t2.mv Mv.any, B8⟩
    case rest =>
      obtain ⟨bx, by0, ax, ay, cx, cy, rfl, rfl, rX, rY, tx, ty, hbc⟩ := hcut
      have r7 := r6.below hbc
      have hs7 := hs6.below hbc
      obtain ⟨hfn, hsg, hdt, hrq, h32⟩ := FH.out
      rw [← HG.out.1] at hsg
      rw [← HG.out.2] at hdt
      have hS := hs7.s
      have hD := hs7.d
      rw [hsg] at hS h32
      rw [hdt] at hD
      obtain ⟨as1, cs1, es, _⟩ := hS.form
      obtain ⟨ad1, cd1, ed, _⟩ := hD.form
      rw [es] at hS
      rw [ed] at hD
      have HS1 := same_any wc _ _ g1 g1 hS.1 tx.1
      have HS2 := same_any wc _ _ g2 g2 hD.1 ty.1
      have HSR := sameReq_any wc [.int .i64 m.req.1, .int .i64 m.req.2.1, s5.o, s5.g] [.int .i64 m.oth.1, .int .i64 m.oth.2.1, s5.o', s5.g'] m.req m.oth ⟨_, _, rfl, hs7.o, hs7.g⟩ ⟨_, _, rfl, hs7.o', hs7.g'⟩
      rw [decide_eq_true rfl] at HS1 HS2
      rw [decide_eq_false hrq] at HSR
      have c4 := r7.cell (j := 4) rfl
      have c8 := r7.cell (j := 8) rfl
      have c9 := r7.cell (j := 9) rfl
      have c10 := r7.cell (j := 10) rfl
      have c11 := r7.cell (j := 11) rfl
      have c12 := r7.cell (j := 12) rfl
      have c13 := r7.cell (j := 13) rfl
      have c14 := r7.cell (j := 14) rfl
      have c15 := r7.cell (j := 15) rfl
      have c16 := r7.cell (j := 16) rfl
      have c17 := r7.cell (j := 17) rfl
      have C17 := (show Hid (∀ u, Below wc.heap.size wc u → u.cell? ⟨cM, 17, none⟩ = some (.slice as1 32 cs1)) from fun u hu => by have := (r7.below hu).cell (j := 17) rfl; rw [es, h32] at this; exact this)
      have cx1 := rX.cell (j := 1) rfl
      have cy1 := rY.cell (j := 1) rfl
      rw [es] at c17
      rw [ed] at c16
      rw [h32] at c17 cx1 HS1
      clear HB HB' HM HM' RG CK HG FH hsg hdt hrq h32 es ed hS hD rX rY tx ty r7 r6 hs7 hs6 hT6 hz
      go_wp2_with (first
        | (go_at_call 11; first
            | (refine HS1.mono ?_; rintro e w8 ⟨rfl, h8⟩; have h8 := h8.symm; subst h8)
            | (refine HS2.mono ?_; rintro e w8 ⟨rfl, h8⟩; have h8 := h8.symm; subst h8))
        | (go_at_call 17; refine HSR.mono ?_; rintro e w9 ⟨rfl, b9⟩; have c17 := C17.out w9 b9))
      go_ret
      exact ⟨by simp, below_and (below_and B6 (Nat.le_refl _) hbc) (Nat.le_refl _) b9⟩
end
end Go.Proofs.YtgjepofinpmcpaaGreatDoor
