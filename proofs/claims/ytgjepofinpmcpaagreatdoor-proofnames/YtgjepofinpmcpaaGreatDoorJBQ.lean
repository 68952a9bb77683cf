/- The laws' own 'evidence': two votes of one signer noted one behind the other. Written by mk17e.py. -/
import Derived.Test.YtgjepofinpmcpaaGreatDoorJBM
import Derived.Test.YtgjepofinpmcpaaGreatDoorJBN
import Derived.Test.YtgjepofinpmcpaaGreatDoorJBO
section
set_option linter.unusedVariables false
set_option linter.unusedSimpArgs false
namespace Go.Proofs.YtgjepofinpmcpaaGreatDoor
open Go.RowKit Oct Kvl

theorem sgn_sz (k x y s : Int) (r : PReq) (i : Int) : szT (sgn k x y s r i) := by
  unfold szT sgn
  by_cases h : 0 ≤ repL i ∧ repL i ≤ 127
  · rw [signL_len _ _ h.1 h.2]; decide
  · rw [signL_no _ _ (by omega)]; decide
theorem rep_in {i : Int} (h0 : 0 ≤ i) (h1 : i ≤ 15) : repL i = i := by unfold repL; rw [if_pos ⟨h0, h1⟩]
theorem sgn_rgt (k x y s : Int) (r : PReq) {i : Int} (h0 : 0 ≤ i) (h1 : i ≤ 15) : rgtV k x y s r (i, sgn k x y s r i) = true := by
  unfold rgtV sgn
  exact verL_same _ _ (by rw [rep_in h0 h1]; omega) (by rw [rep_in h0 h1]; omega)
theorem note_one {ls : List PSn} {k x y s : Int} {r : PReq} {v : PVote} (hk : k = 2 ∨ k = 3) (hv : rgtV k x y s r v = true) : noteL ls k x y s r [v] = meetL ls (k, x, y, s, v.1) r v.2 := by
  unfold noteL noteV
  rw [if_pos hk]
  simp [stpL, hv]
theorem note_not {ls : List PSn} {k x y s : Int} {r : PReq} {v : PVote} (hv : rgtV k x y s r v = false) : noteL ls k x y s r [v] = (ls, []) := by
  unfold noteL noteV
  by_cases hk : k = 2 ∨ k = 3
  · rw [if_pos hk]
    simp [stpL, hv]
  · rw [if_neg hk]
theorem note_nil (ls : List PSn) (k x y s : Int) (r : PReq) : noteL ls k x y s r [] = (ls, []) := by
  unfold noteL noteV
  split <;> rfl
theorem rl_onev {G : Nat → Prop} {w : World} {i : Int} {v : Value} {g : List Int} (h : RT G w v g) (hG : G w.heap.size) : RL RVote 2 G (w.alloc (.cells #[.int .i64 i, v] 58)) (.slice (some ⟨w.heap.size, 0, none⟩) 1 1) [(i, g)] := by
  refine ⟨[[.int .i64 i, v]], ⟨by simp, .inr ⟨w.heap.size, 0, 1, rfl, by simp, by unfold maxLen; decide, by simp, hG, by simp, ?_⟩⟩, ⟨⟨v, rfl, h.mv (Mv.belowG (below_alloc _ _))⟩, trivial⟩⟩
  intro q r hq
  have hR := Row.new w 58 [.int .i64 i, v]
  cases q with
  | zero =>
    simp at hq
    subst hq
    intro j u hj
    simpa using hR.cell hj
  | succ q => simp at hq

/-- What Note answers, seen from an earlier world. -/
theorem note1_any (w : World) (b m : Nat) (ls : List PSn) (h : Lg (NM m) w b m ls) (k x y s i : Int) (rc : List Value) (r : PReq) (hrq : RReq (NM m) w rc r) (hr : tot [r.2.2.1, r.2.2.2] ≤ 2000000) (v : Value) (g : List Int) (hv : RT (NM m) w v g) (hg : szT g) (hT : Tab w) :
    Calls Tryz.prog 33 #[.pointer (some ⟨b, 0, none⟩), .int .i64 k, .agg #[.int .i64 x, .int .i64 y], .int .i64 s, .agg rc.toArray, .slice (some ⟨w.heap.size, 0, none⟩) 1 1] (w.alloc (.cells #[.int .i64 i, v] 58)) fun e w' => NtP w b m (noteL ls k x y s r [(i, g)]) e w' := by
  have B := below_alloc w (.cells #[.int .i64 i, v] 58)
  refine (noteG_any _ b m ls (h.below B) k x y s rc r (mov_req _ _ _ _ _ _ hrq B.size (Mv.belowG B)) hr _ [(i, g)] (rl_onev hv (fun e => by have := h.lt.2; omega)) (by simpa using hg) (by simp) (hT.below B)).mono ?_
  rintro e w' ⟨v', e1, e2, e3, e4⟩
  exact ⟨v', e1, e2.mv mov_ms (Nat.le_refl _) (Mv.weak B.size), e3, grown_trans (grown_of_below B _) e4 (.inl rfl)⟩

def r00 : PReq := (0, 0, [], [])
def r11 : PReq := (1, 1, [], [])
def q13 : PK := (2, 0, 0, 1, 3)
theorem r_ne : ¬ (body r00 = body r11) := by decide
def lsA : List PSn := [⟨q13, r00, sgn 2 0 0 1 r00 3, false⟩]
def lsB : List PSn := [⟨q13, r00, sgn 2 0 0 1 r00 3, true⟩]
theorem al_1 : noteL [] 2 0 0 1 r00 [(3, sgn 2 0 0 1 r00 3)] = (lsA, []) := by
  rw [note_one (.inl rfl) (sgn_rgt _ _ _ _ _ (by decide) (by decide))]
  rfl
theorem al_2 : noteL lsA 2 0 0 1 r11 [(3, sgn 2 0 0 1 r11 3)] = (lsB, [evL q13 r00 (sgn 2 0 0 1 r00 3) r11 (sgn 2 0 0 1 r11 3)]) := by
  rw [note_one (.inl rfl) (sgn_rgt _ _ _ _ _ (by decide) (by decide))]
  exact meet_new (j := 0) (z := ⟨q13, r00, sgn 2 0 0 1 r00 3, false⟩) rfl rfl (by simp; exact r_ne)
theorem al_3 : noteL lsB 2 0 0 1 r11 [(3, sgn 2 0 0 1 r11 3)] = (lsB, []) := by
  rw [note_one (.inl rfl) (sgn_rgt _ _ _ _ _ (by decide) (by decide))]
  exact meet_old (j := 0) (z := ⟨q13, r00, sgn 2 0 0 1 r00 3, true⟩) rfl rfl (.inl rfl)
theorem ev_frm (q : PK) (r1 : PReq) (s1 : List Int) (r2 : PReq) (s2 : List Int) : (evL q r1 s1 r2 s2).frm = q.2.2.2.2 ∧ (evL q r1 s1 r2 s2).idx = q.1 ∧ (evL q r1 s1 r2 s2).slot = q.2.2.2.1 ∧ (evL q r1 s1 r2 s2).bal = (q.2.1, q.2.2.1) := by
  unfold evL ev0
  split <;> exact ⟨rfl, rfl, rfl, rfl⟩
theorem rnil (G : Nat → Prop) (w : World) (a c : Int) : RReq G w [.int .i64 a, .int .i64 c, .slice none 0 0, .slice none 0 0] (a, c, [], []) := ⟨_, _, rfl, RT.nil _ _, RT.nil _ _⟩

theorem toNM {m B : Nat} {w : World} (hm : m < B) : Mv (From B) (NM m) w w := fun k hk _ => ⟨rfl, fun e => by unfold From at hk; omega⟩
theorem below_of_le {B C : Nat} {w w' : World} (h : Below C w w') (hB : B ≤ C) : Below B w w' := ⟨h.os, h.tape, h.output, h.size, fun k hk => h.block k (by omega)⟩

end Go.Proofs.YtgjepofinpmcpaaGreatDoor
end

section
set_option linter.unusedVariables false
set_option linter.unusedSimpArgs false
namespace Go.Proofs.YtgjepofinpmcpaaGreatDoor
open Go.RowKit Oct Kvl

theorem below_drewE (w : World) : Below w.heap.size w w.drew := ⟨rfl, rfl, rfl, Nat.le_refl _, fun _ _ => rfl⟩
theorem toNMe {m : Nat} {w : World} (h : w.heap.size ≤ m) : Mv Any (NM m) w w := fun k _ hlt => ⟨rfl, fun e => by omega⟩
def lsE (x y s i : Int) (r0 : PReq) : List PSn := (noteL [] 2 x y s r0 [(i, sgn 2 x y s r0 i)]).1
def evsL (x y s i : Int) (r0 r1 : PReq) : List PMsg := (noteL (lsE x y s i r0) 2 x y s r1 [(i, sgn 2 x y s r1 i)]).2

set_option maxRecDepth 10000 in
set_option maxHeartbeats 4000000 in
theorem evidence_any (w : World) (x y s i : Int) (o0 p0 o1 p1 : Value) (r0 r1 : PReq) (t0 : RT Any w o0 r0.2.2.1) (u0 : RT Any w p0 r0.2.2.2) (t1 : RT Any w o1 r1.2.2.1) (u1 : RT Any w p1 r1.2.2.2) (z0 : tot [r0.2.2.1, r0.2.2.2] ≤ 2000000) (z1 : tot [r1.2.2.1, r1.2.2.2] ≤ 2000000) (hT : Tab w) :
    Calls Tryz.prog 15 #[.agg #[.int .i64 x, .int .i64 y], .int .i64 s, .int .i64 i, .agg #[.int .i64 r0.1, .int .i64 r0.2.1, o0, p0], .agg #[.int .i64 r1.1, .int .i64 r1.2.1, o1, p1]] w fun e w' => ∃ v', e = .returned v' ∧ RL RMs 23 Any w' v' (evsL x y s i r0 r1) ∧ Below w.heap.size w w' := by
  obtain ⟨ao0, co0, rfl, _⟩ := t0.form
  obtain ⟨ap0, cp0, rfl, _⟩ := u0.form
  obtain ⟨ao1, co1, rfl, _⟩ := t1.form
  obtain ⟨ap1, cp1, rfl, _⟩ := u1.form
  obtain ⟨w1, hw1⟩ : ∃ w1, w1 = w.alloc (.cells #[.int .i64 x, .int .i64 y] 32) := ⟨_, rfl⟩
  obtain ⟨w2, hw2⟩ : ∃ w2, w2 = w1.alloc (.cells #[.int .i64 r0.1, .int .i64 r0.2.1, .slice ao0 r0.2.2.1.length co0, .slice ap0 r0.2.2.2.length cp0] 34) := ⟨_, rfl⟩
  obtain ⟨w3, hw3⟩ : ∃ w3, w3 = w2.alloc (.cells #[.int .i64 r1.1, .int .i64 r1.2.1, .slice ao1 r1.2.2.1.length co1, .slice ap1 r1.2.2.2.length cp1] 34) := ⟨_, rfl⟩
  have e1 : w1.heap.size = w.heap.size + 1 := by rw [hw1]; simp
  have e2 : w2.heap.size = w.heap.size + 2 := by rw [hw2]; simp [e1]
  have B1 : Below w.heap.size w w1 := by rw [hw1]; exact below_alloc _ _
  have B2 : Below w1.heap.size w1 w2 := by rw [hw2]; exact below_alloc _ _
  have B3 : Below w2.heap.size w2 w3 := by rw [hw3]; exact below_alloc _ _
  have rB : Row w1 w.heap.size 32 [.int .i64 x, .int .i64 y] := by rw [hw1]; exact Row.new _ _ _
  have rR0 : Row w2 (w.heap.size + 1) 34 [.int .i64 r0.1, .int .i64 r0.2.1, .slice ao0 r0.2.2.1.length co0, .slice ap0 r0.2.2.2.length cp0] := by rw [hw2, ← e1]; exact Row.new _ _ _
  have rR1 : Row w3 (w.heap.size + 2) 34 [.int .i64 r1.1, .int .i64 r1.2.1, .slice ao1 r1.2.2.1.length co1, .slice ap1 r1.2.2.2.length cp1] := by rw [hw3, ← e2]; exact Row.new _ _ _
  have rB := (rB.below B2).below B3
  have rR0 := rR0.below B3
  have B : Below w.heap.size w w3 := below_and (below_and B1 (Nat.le_refl _) B2) (Nat.le_refl _) B3
  have hw : w3 = ((w.alloc (.cells #[.int .i64 x, .int .i64 y] 32)).alloc (.cells #[.int .i64 r0.1, .int .i64 r0.2.1, .slice ao0 r0.2.2.1.length co0, .slice ap0 r0.2.2.2.length cp0] 34)).alloc (.cells #[.int .i64 r1.1, .int .i64 r1.2.1, .slice ao1 r1.2.2.1.length co1, .slice ap1 r1.2.2.2.length cp1] 34) := by rw [hw3, hw2, hw1]
  clear hw1 hw2 hw3 e1 e2 B1 B2 B3
  go_enter Tryz.func15, Tryz.ntmps15
  go_upto_region 1 with fail
  rw [← hw]
  clear hw
  simp only [show w.heap.size + 1 + 1 = w.heap.size + 2 from rfl]
  obtain ⟨cB, hcB⟩ : ∃ c, c = w.heap.size := ⟨_, rfl⟩
  obtain ⟨cR0, hcR0⟩ : ∃ c, c = w.heap.size + 1 := ⟨_, rfl⟩
  obtain ⟨cR1, hcR1⟩ : ∃ c, c = w.heap.size + 2 := ⟨_, rfl⟩
  rw [← hcR0] at rR0 ⊢
  rw [← hcR1] at rR1 ⊢
  rw [← hcB] at rB ⊢
  clear hcB hcR0 hcR1
  have hNW := newG_any w3
  go_upto_region 4 with (go_at_call 32; refine hNW.mono ?_; rintro e w4 ⟨rfl, l4, b4⟩)
  have hm5 : w.heap.size ≤ w3.heap.size := B.size
  have BW := below_and B (Nat.le_refl _) b4
  have rB := rB.below b4
  have rR0 := rR0.below b4
  have rR1 := rR1.below b4
  have t0 := ((t0.mv (Mv.below B)).mv (toNMe (Nat.le_refl _))).mv (Mv.belowG b4)
  have u0 := ((u0.mv (Mv.below B)).mv (toNMe (Nat.le_refl _))).mv (Mv.belowG b4)
  have t1 := ((t1.mv (Mv.below B)).mv (toNMe (Nat.le_refl _))).mv (Mv.belowG b4)
  have u1 := ((u1.mv (Mv.below B)).mv (toNMe (Nat.le_refl _))).mv (Mv.belowG b4)
  have hT4 := (hT.below B).below b4
  clear hNW B b4 hT
  generalize hm : w3.heap.size = m at *
  generalize hb : m + 1 = b at *
  clear hm hb
  have hmB := l4.nrow rB
  have hmR0 := l4.nrow rR0
  have hmR1 := l4.nrow rR1
  have SK0 := (show Hid (∀ u, w4.grownBy u (some m) → u.cell? ⟨cB, 0, none⟩ = some (.int .i64 x) ∧ u.cell? ⟨cB, 1, none⟩ = some (.int .i64 y) ∧ u.cell? ⟨cR0, 0, none⟩ = some (.int .i64 r0.1) ∧ u.cell? ⟨cR0, 1, none⟩ = some (.int .i64 r0.2.1) ∧ u.cell? ⟨cR0, 2, none⟩ = some (.slice ao0 r0.2.2.1.length co0) ∧ u.cell? ⟨cR0, 3, none⟩ = some (.slice ap0 r0.2.2.2.length cp0)) from fun u hu => ⟨(rB.grown hu hmB).cell (j := 0) rfl, (rB.grown hu hmB).cell (j := 1) rfl, (rR0.grown hu hmR0).cell (j := 0) rfl, (rR0.grown hu hmR0).cell (j := 1) rfl, (rR0.grown hu hmR0).cell (j := 2) rfl, (rR0.grown hu hmR0).cell (j := 3) rfl⟩)
  obtain ⟨q0, q1, q2, q3, q4, q5⟩ := SK0.out w4 (grown_of_below (Below.refl _ _) _)
  have hd0 := below_drewE w4
  have gd0 : w4.grownBy w4.drew (some m) := grown_of_below hd0 _
  have HB0 := (show Hid (∀ _ : Unit, _) from fun _ => body_any w4.drew [.int .i64 r0.1, .int .i64 r0.2.1, .slice ao0 r0.2.2.1.length co0, .slice ap0 r0.2.2.2.length cp0] r0 ⟨_, _, rfl, (t0.mv (Mv.belowG hd0)).mv Mv.any, (u0.mv (Mv.belowG hd0)).mv Mv.any⟩ (Nat.le_trans z0 (by decide)))
  have hbb0 : Byt (body r0) := body_byt t0.1.1 u0.1.1 z0
  have HBL0 := (show Hid ((body r0).length ≤ 3000000) from body_len z0)
  go_wp2_with fail
  go_region_held3 (fun u => u.cell? ⟨cB, 0, none⟩ = some (.int .i64 x) ∧ u.cell? ⟨cB, 1, none⟩ = some (.int .i64 y) ∧ u.cell? ⟨cR0, 0, none⟩ = some (.int .i64 r0.1) ∧ u.cell? ⟨cR0, 1, none⟩ = some (.int .i64 r0.2.1) ∧ u.cell? ⟨cR0, 2, none⟩ = some (.slice ao0 r0.2.2.1.length co0) ∧ u.cell? ⟨cR0, 3, none⟩ = some (.slice ap0 r0.2.2.2.length cp0))
    (first | exact SK0.out _ gx0 | exact SK0.out _ gb0 | exact SK0.out _ ga0 | exact SK0.out _ gc0 | exact SK0.out _ gd0 | go_keep)
    (first
      | (go_at_call 33; refine hN0.mono ?_; rintro e wx0 ⟨vx0, rfl, ex0, lx0, gx'0⟩; have gx0 : w4.grownBy wx0 (some m) := grown_trans ga0 gx'0 (.inl rfl); obtain ⟨ax0, cx0, rfl, _⟩ := ex0.form)
      | (go_at_call 20; refine (vMake_any wc0 2 x y s i vc0 (body r0) (oc0.rd hbb0) HBL0.out (hT4.below bc0)).mono ?_; rintro e wa0 ⟨va0, rfl, fa'0, ba0⟩; have fa0 : RT (From wc0.heap.size) wa0 va0 (sgn 2 x y s r0 i) := fa'0; obtain ⟨aa0, ca0, rfl, _⟩ := fa0.form; have bb0 : Below w4.heap.size w4 wa0 := below_and bc0 (Nat.le_refl _) ba0; have ga0 : w4.grownBy wa0 (some m) := grown_of_below bb0 _; have gb0 : w4.grownBy (wa0.alloc (.cells #[.int .i64 i, .slice aa0 (sgn 2 x y s r0 i).length ca0] 58)) (some m) := grown_trans ga0 (grown_of_below (below_alloc _ _) _) (.inl rfl); have hN0 := note1_any wa0 b m [] (l4.below bb0) 2 x y s i [.int .i64 r0.1, .int .i64 r0.2.1, .slice ao0 r0.2.2.1.length co0, .slice ap0 r0.2.2.2.length cp0] r0 ⟨_, _, rfl, t0.mv (Mv.belowG bb0), u0.mv (Mv.belowG bb0)⟩ z0 _ _ (fa0.mv (toNM (l4.below bc0).lt.2)) (sgn_sz _ _ _ _ _ _) (hT4.below bb0))
      | (go_at_call 21; refine (HB0.out ()).mono ?_; rintro e wc0 ⟨vc0, rfl, oc0, fc0, bc'0⟩; have bc0 : Below w4.heap.size w4 wc0 := hd0.trans bc'0; have gc0 : w4.grownBy wc0 (some m) := grown_of_below bc0 _))
  have hmv : Mv (NM m) (NM m) w4 wx0 := Mv.nm (fun k hk => hk) gx0
  have rB := rB.grown gx0 hmB
  have rR1 := rR1.grown gx0 hmR1
  have t1 := t1.mv hmv
  have u1 := u1.mv hmv
  have hT5 := hT4.grown gx0 (l4.ntab hT4)
  have BX := BW.trans (grown_below gx0 (Nat.le_trans hm5 (Nat.le_of_lt l4.lt.2)) (fun q hq => by have := Option.some.inj hq; omega))
  have l5 : Lg (NM m) wx0 b m (lsE x y s i r0) := lx0
  clear SK0 HB0 hN0 q0 q1 q2 q3 q4 q5 gd0 hd0 ga0 gb0 gc0 fa0 fa'0 ba0 bb0 gx'0 ex0 lx0 hmv hT4 BW l4 t0 u0 rR0 hmR0 HBL0 hbb0 oc0 fc0 bc0 bc'0 gx0
  generalize hLS : lsE x y s i r0 = LS at *
  have HLS := (show Hid (lsE x y s i r0 = LS) from hLS)
  clear hLS
  have SK1 := (show Hid (∀ u, wx0.grownBy u (some m) → u.cell? ⟨cB, 0, none⟩ = some (.int .i64 x) ∧ u.cell? ⟨cB, 1, none⟩ = some (.int .i64 y) ∧ u.cell? ⟨cR1, 0, none⟩ = some (.int .i64 r1.1) ∧ u.cell? ⟨cR1, 1, none⟩ = some (.int .i64 r1.2.1) ∧ u.cell? ⟨cR1, 2, none⟩ = some (.slice ao1 r1.2.2.1.length co1) ∧ u.cell? ⟨cR1, 3, none⟩ = some (.slice ap1 r1.2.2.2.length cp1)) from fun u hu => ⟨(rB.grown hu hmB).cell (j := 0) rfl, (rB.grown hu hmB).cell (j := 1) rfl, (rR1.grown hu hmR1).cell (j := 0) rfl, (rR1.grown hu hmR1).cell (j := 1) rfl, (rR1.grown hu hmR1).cell (j := 2) rfl, (rR1.grown hu hmR1).cell (j := 3) rfl⟩)
  obtain ⟨q0, q1, q2, q3, q4, q5⟩ := SK1.out wx0 (grown_of_below (Below.refl _ _) _)
  have hd1 := below_drewE wx0
  have gd1 : wx0.grownBy wx0.drew (some m) := grown_of_below hd1 _
  have HB1 := (show Hid (∀ _ : Unit, _) from fun _ => body_any wx0.drew [.int .i64 r1.1, .int .i64 r1.2.1, .slice ao1 r1.2.2.1.length co1, .slice ap1 r1.2.2.2.length cp1] r1 ⟨_, _, rfl, (t1.mv (Mv.belowG hd1)).mv Mv.any, (u1.mv (Mv.belowG hd1)).mv Mv.any⟩ (Nat.le_trans z1 (by decide)))
  have hbb1 : Byt (body r1) := body_byt t1.1.1 u1.1.1 z1
  have HBL1 := (show Hid ((body r1).length ≤ 3000000) from body_len z1)
  go_wp2_with fail
  go_region_held3 (fun u => u.cell? ⟨cB, 0, none⟩ = some (.int .i64 x) ∧ u.cell? ⟨cB, 1, none⟩ = some (.int .i64 y) ∧ u.cell? ⟨cR1, 0, none⟩ = some (.int .i64 r1.1) ∧ u.cell? ⟨cR1, 1, none⟩ = some (.int .i64 r1.2.1) ∧ u.cell? ⟨cR1, 2, none⟩ = some (.slice ao1 r1.2.2.1.length co1) ∧ u.cell? ⟨cR1, 3, none⟩ = some (.slice ap1 r1.2.2.2.length cp1))
    (first | exact SK1.out _ gx1 | exact SK1.out _ gb1 | exact SK1.out _ ga1 | exact SK1.out _ gc1 | exact SK1.out _ gd1 | go_keep)
    (first
      | (go_at_call 33; refine hN1.mono ?_; rintro e wx1 ⟨vx1, rfl, ex1, lx1, gx'1⟩; have gx1 : wx0.grownBy wx1 (some m) := grown_trans ga1 gx'1 (.inl rfl); obtain ⟨ax1, cx1, rfl, _⟩ := ex1.form)
      | (go_at_call 20; refine (vMake_any wc1 2 x y s i vc1 (body r1) (oc1.rd hbb1) HBL1.out (hT5.below bc1)).mono ?_; rintro e wa1 ⟨va1, rfl, fa'1, ba1⟩; have fa1 : RT (From wc1.heap.size) wa1 va1 (sgn 2 x y s r1 i) := fa'1; obtain ⟨aa1, ca1, rfl, _⟩ := fa1.form; have bb1 : Below wx0.heap.size wx0 wa1 := below_and bc1 (Nat.le_refl _) ba1; have ga1 : wx0.grownBy wa1 (some m) := grown_of_below bb1 _; have gb1 : wx0.grownBy (wa1.alloc (.cells #[.int .i64 i, .slice aa1 (sgn 2 x y s r1 i).length ca1] 58)) (some m) := grown_trans ga1 (grown_of_below (below_alloc _ _) _) (.inl rfl); have hN1 := note1_any wa1 b m LS (l5.below bb1) 2 x y s i [.int .i64 r1.1, .int .i64 r1.2.1, .slice ao1 r1.2.2.1.length co1, .slice ap1 r1.2.2.2.length cp1] r1 ⟨_, _, rfl, t1.mv (Mv.belowG bb1), u1.mv (Mv.belowG bb1)⟩ z1 _ _ (fa1.mv (toNM (l5.below bc1).lt.2)) (sgn_sz _ _ _ _ _ _) (hT5.below bb1))
      | (go_at_call 21; refine (HB1.out ()).mono ?_; rintro e wc1 ⟨vc1, rfl, oc1, fc1, bc'1⟩; have bc1 : Below wx0.heap.size wx0 wc1 := hd1.trans bc'1; have gc1 : wx0.grownBy wc1 (some m) := grown_of_below bc1 _))
  have BY := BX.trans (grown_below gx1 (Nat.le_trans hm5 (Nat.le_of_lt l5.lt.2)) (fun q hq => by have := Option.some.inj hq; omega))
  have hE : RL RMs 23 Any wx1 _ (noteL LS 2 x y s r1 [(i, sgn 2 x y s r1 i)]).2 := ex1.mv mov_ms (Nat.le_refl _) Mv.any
  have hV : evsL x y s i r0 r1 = (noteL LS 2 x y s r1 [(i, sgn 2 x y s r1 i)]).2 := by unfold evsL; rw [HLS.out]
  go_wp2_with fail
  go_ret
  exact ⟨_, rfl, by rw [hV]; exact hE, BY⟩
end Go.Proofs.YtgjepofinpmcpaaGreatDoor
end
