/- The document's SameOp of two alike, and its Write. -/
import Derived.Test.YtmfmfjndigjlfabKt
import Derived.Test.YtmfmfjndigjlfabW4
set_option linter.unusedVariables false
set_option linter.unusedSimpArgs false
namespace Go.Proofs.Ytmfmfjndigjlfab
open Go.RowKit Oct Kvl

set_option maxRecDepth 10000 in
set_option maxHeartbeats 4000000 in
/-- The document's SameOp, of two alike. -/
theorem sameOp_eq (w : World) (r1 r2 : List Value) (o : POp) (h1 : ROp Any w r1 o) (h2 : ROp Any w r2 o) :
    Calls Try.prog 14 #[.agg r1.toArray, .agg r2.toArray] w fun e w' => e = .returned (.bool true) ∧ Below w.heap.size w w' := by
  obtain ⟨vn, va, vb, rfl, rn, ra', rb'⟩ := h1
  obtain ⟨un, ua, ub, rfl, sn, sa, sb⟩ := h2
  obtain ⟨w2, hw2⟩ : ∃ w2, w2 = (w.alloc (.cells #[.int .i64 o.1, vn, va, vb, .int .i64 o.2.2.2.2] 24)).alloc (.cells #[.int .i64 o.1, un, ua, ub, .int .i64 o.2.2.2.2] 24) := ⟨_, rfl⟩
  have ra : Row w2 w.heap.size 24 [.int .i64 o.1, vn, va, vb, .int .i64 o.2.2.2.2] := by rw [hw2]; exact rowA (Row.new w 24 _) _
  have rb : Row w2 (w.heap.size + 1) 24 [.int .i64 o.1, un, ua, ub, .int .i64 o.2.2.2.2] := by
    rw [hw2]
    have := Row.new (w.alloc (.cells #[.int .i64 o.1, vn, va, vb, .int .i64 o.2.2.2.2] 24)) 24 [.int .i64 o.1, un, ua, ub, .int .i64 o.2.2.2.2]
    simpa using this
  have hB : Below w.heap.size w w2 := by rw [hw2]; exact ((Below.refl _ w).alloc (Nat.le_refl _) _).alloc (by simp) _
  have a0 := ra.cell (j := 0) rfl; have a1 := ra.cell (j := 1) rfl; have a2 := ra.cell (j := 2) rfl; have a3 := ra.cell (j := 3) rfl; have a4 := ra.cell (j := 4) rfl
  have b0 := rb.cell (j := 0) rfl; have b1 := rb.cell (j := 1) rfl; have b2 := rb.cell (j := 2) rfl; have b3 := rb.cell (j := 3) rfl; have b4 := rb.cell (j := 4) rfl
  have s1 := same_any w2 vn un _ _ (rn.mv (Mv.below hB)).1 (sn.mv (Mv.below hB)).1
  have s2 := same_any w2 va ua _ _ (ra'.mv (Mv.below hB)).1 (sa.mv (Mv.below hB)).1
  have s3 := same_any w2 vb ub _ _ (rb'.mv (Mv.below hB)).1 (sb.mv (Mv.below hB)).1
  simp only [decide_true] at s1 s2 s3
  clear ra rb rn ra' rb' sn sa sb
  generalize o.1 = k at *
  generalize o.2.2.2.2 = u at *
  have ek : (k == k) = true := by simp
  have eu : (u == u) = true := by simp
  go_enter Try.func14, Try.ntmps14
  go_upto_region 1 with fail
  rw [← hw2]
  clear hw2
  go_wp2_with (first
    | (go_at_call_has 12 un; refine s1.mono ?_; rintro e w3 ⟨rfl, rfl⟩)
    | (go_at_call_has 12 ua; refine s2.mono ?_; rintro e w3 ⟨rfl, rfl⟩)
    | (go_at_call_has 12 ub; refine s3.mono ?_; rintro e w3 ⟨rfl, rfl⟩))
  go_ret
  exact ⟨rfl, hB⟩

theorem packL_op (a b c : List Int) : packL [a, b, c] = (enc a.length ++ a) ++ ((enc b.length ++ b) ++ (enc c.length ++ c)) := by simp [packL]
theorem wrO_pack (o : POp) (h : wok o) : wrO o = enc o.1 ++ packL [o.2.1, o.2.2.1, o.2.2.2.1] ++ enc o.2.2.2.2 := by
  rw [wrO_eq o h, packL_op]
  simp only [List.append_assoc]

set_option maxRecDepth 10000 in
set_option maxHeartbeats 4000000 in
/-- The document's Write. -/
theorem refWrite_any (w : World) (r : List Value) (o : POp) (h : ROp Any w r o) :
    Calls Try.prog 11 #[.agg r.toArray] w fun e w' => ∃ v', e = .returned (.tuple #[v', .int .i64 (errW o)]) ∧ Own w' 5 v' (bc (outW o)) ∧ Fr w.heap.size v' ∧ Below w.heap.size w w' := by
  have le := Nat.le_refl w.heap.size
  have hall := h
  obtain ⟨vn, va, vb, rfl, rn, ra', rb'⟩ := h
  obtain ⟨w0, hw0⟩ : ∃ w0, w0 = w.alloc (.cells #[.int .i64 o.1, vn, va, vb, .int .i64 o.2.2.2.2] 24) := ⟨_, rfl⟩
  have x0 : Row w0 w.heap.size 24 [.int .i64 o.1, vn, va, vb, .int .i64 o.2.2.2.2] := by rw [hw0]; exact Row.new w 24 _
  have B0 : Below w.heap.size w w0 := by rw [hw0]; exact below_alloc _ _
  have hW := rightOp_any w0 _ o (mov_op _ _ _ _ _ _ hall B0.size (Mv.below B0))
  by_cases hw : wok o
  rotate_left
  · rw [decide_eq_false hw] at hW
    rw [errW, if_neg hw, outW, if_neg hw]
    go_enter Try.func11, Try.ntmps11
    go_upto_region 1 with fail
    rw [← hw0]
    clear hw0
    go_wp2_with (first
      | (refine wl_load rfl _ _ rfl w.heap.size rfl _ _ x0 _ Try.underlying24 rfl (by kernel_rfl) ?_)
      | (go_at_call 28; refine hW.mono ?_; rintro e w1 ⟨rfl, hb1⟩))
    go_ret2
    exact ⟨_, rfl, Own.nil _ _, Fr.nil _, below_and B0 le hb1⟩
  rw [decide_eq_true hw] at hW
  rw [errW, if_pos hw, outW, if_pos hw, wrO_pack o hw]
  obtain ⟨⟨k1, k2⟩, ⟨n1, n2⟩, na, nb, u1, u2⟩ := hw
  have na := Nat.le_trans na (mA_le _)
  have nb := Nat.le_trans nb (mB_le _)
  have hl : 0 ≤ lN o.1 := by unfold lN; split <;> omega
  have hm : mN o.1 ≤ 1000 := by unfold mN; split <;> omega
  have hu0 : 0 ≤ o.2.2.2.2 := by omega
  have hu1 : o.2.2.2.2 ≤ 1000 := by omega
  clear u1 u2 hl hm
  have i1 := fun u => refInt_any u o.1
  have i2 := fun u => refInt_any u o.2.2.2.2
  rw [errI_yes (by omega) (by omega), outI_yes (by omega) (by omega)] at i1 i2
  have I1 := (show Hid (∀ u : World, Calls Try.prog 29 #[.int .i64 o.1] u fun e w' => ∃ v, e = .returned (.tuple #[v, .int .i64 0]) ∧ Own w' 5 v (bc (enc o.1)) ∧ Fr u.heap.size v ∧ Below u.heap.size u w') from i1)
  have I2 := (show Hid (∀ u : World, Calls Try.prog 29 #[.int .i64 o.2.2.2.2] u fun e w' => ∃ v, e = .returned (.tuple #[v, .int .i64 0]) ∧ Own w' 5 v (bc (enc o.2.2.2.2)) ∧ Fr u.heap.size v ∧ Below u.heap.size u w') from i2)
  have bk := enc_byt o.1 (by omega) (by omega)
  have bu := enc_byt o.2.2.2.2 (by omega) (by omega)
  have ek := enc_len o.1
  have eu := enc_len o.2.2.2.2
  have en := enc_len (o.2.1.length : Int)
  have ea := enc_len (o.2.2.1.length : Int)
  have eb := enc_len (o.2.2.2.1.length : Int)
  clear i1 i2
  have hp1 : (packL [o.2.1, o.2.2.1, o.2.2.2.1]).length ≤ 1000 := by rw [packL_op]; simp only [List.length_append]; omega
  have hp2 : Byt (packL [o.2.1, o.2.2.1, o.2.2.2.1]) := by
    rw [packL_op]
    exact ((enc_byt _ (by omega) (by omega)).app rn.1.1).app (((enc_byt _ (by omega) (by omega)).app ra'.1.1).app ((enc_byt _ (by omega) (by omega)).app rb'.1.1))
  have HP := (show Hid (∀ u, Below w.heap.size w u → Calls Try.prog 30 #[.slice (some ⟨u.heap.size, 0, none⟩) 3 3] (u.alloc (.cells #[vn, va, vb] 22)) fun e w' => ∃ v', e = .returned v' ∧ Rd w' v' (packL [o.2.1, o.2.2.1, o.2.2.2.1]) ∧ Below u.heap.size u w') from fun u hu => by
    have hba := below_alloc u (.cells ([vn, va, vb] : List Value).toArray 22)
    have hbb := below_and hu le hba
    have hR : Rdl (u.alloc (.cells ([vn, va, vb] : List Value).toArray 22)) (.slice (some ⟨u.heap.size, 0, none⟩) 3 3) [o.2.1, o.2.2.1, o.2.2.2.1] :=
      ⟨[vn, va, vb], rdv_lit u _ _ (by simp) (by simp), (rn.mv (Mv.below hbb)).1, (ra'.mv (Mv.below hbb)).1, (rb'.mv (Mv.below hbb)).1, trivial⟩
    refine (refPack_any _ _ _ hR (by simp [tot]; omega)).mono fun e w' ⟨v', e1, e2, e3, e4⟩ => ⟨v', e1, e2.rd hp2, below_and hba (Nat.le_refl _) e4⟩)
  have L1 := (show Hid ((enc o.1).length ≤ 10 ∧ (enc o.2.2.2.2).length ≤ 10 ∧ (packL [o.2.1, o.2.2.1, o.2.2.2.1]).length ≤ 1000) from ⟨by omega, by omega, hp1⟩)
  obtain ⟨an, cn, rfl, hcn⟩ := rn.form
  obtain ⟨aa, ca, rfl, hca⟩ := ra'.form
  obtain ⟨ab, cb, rfl, hcb⟩ := rb'.form
  clear ek eu en ea eb hp1 rn ra' rb' hall hcn hca hcb
  generalize packL [o.2.1, o.2.2.1, o.2.2.2.1] = TP at *
  generalize enc o.1 = TK at *
  generalize enc o.2.2.2.2 = TU at *
  go_enter Try.func11, Try.ntmps11
  go_upto_region 1 with fail
  rw [← hw0]
  clear hw0
  go_upto_region 3 with (first
    | (refine wl_load rfl _ _ rfl w.heap.size rfl _ _ x0 _ Try.underlying24 rfl (by kernel_rfl) ?_)
    | (go_at_call 28; refine hW.mono ?_; rintro e w1 ⟨rfl, hb1⟩))
  have B1 := below_and B0 le hb1
  have x1 := x0.below hb1
  have c0 := x1.cell (j := 0) rfl
  go_upto_region 4 with (go_at_call 29; refine (I1.out _).mono ?_; rintro e w2 ⟨v2, rfl, p2, f2, hb2⟩)
  have B2 := below_and B1 le hb2
  have x2 := x1.below hb2
  have c4 := x2.cell (j := 4) rfl
  have p2 := p2.rd bk
  obtain ⟨ax2, cx2, rfl, hcx2⟩ := p2.form
  go_upto_region 5 with (go_at_call 29; refine (I2.out _).mono ?_; rintro e w3 ⟨v3, rfl, p3, f3, hb3⟩)
  have B3 := below_and B2 le hb3
  have x3 := x2.below hb3
  have p3 := p3.rd bu
  have p2 := p2.below hb3
  obtain ⟨ax3, cx3, rfl, hcx3⟩ := p3.form
  clear hW hb1 hb2 hb3 f2 f3 x0 x1 x2 B0 B1 B2 c0 c4 I1 I2
  go_upto_region 6 with (refine app_copy rfl _ _ rfl rfl _ TK rfl p2 (by have := L1.out; omega) ?_; intro v4 w4 q4 f4 hb4)
  have B4 := below_and B3 le hb4
  have x4 := x3.below hb4
  have c1 := x4.cell (j := 1) rfl
  have c2 := x4.cell (j := 2) rfl
  have c3 := x4.cell (j := 3) rfl
  have hP4 := HP.out w4 B4
  go_upto_region 7 with (first
    | (go_at_call 30; refine hP4.mono ?_; rintro e w5 ⟨v5, rfl, p5, hb5⟩; have q5 := q4.below hb5)
    | (at_builtin; refine app_bytes rfl _ _ rfl v4 TK rfl q5 v5 TP rfl p5.2 (by have := L1.out; omega) ?_; intro v6 w6 h6))
  have s5 : w3.heap.size ≤ w5.heap.size := Nat.le_trans hb4.size hb5.size
  have hb6 := h6.below f4 s5
  have f6 := h6.fr f4 s5
  have hb36 : Below w3.heap.size w3 w6 := (below_and hb4 (Nat.le_refl _) hb5).trans hb6
  have p6 := p3.below hb36
  have q6 := h6.own
  clear hP4 h6 hb6 p5 q5 q4 c1 c2 c3 x4 x3 hb5 hb4 B4
  go_wp2_with (at_builtin; refine app_bytes rfl _ _ rfl v6 (TK ++ TP) rfl q6 _ TU rfl p6.2 (by have := L1.out; rw [List.length_append]; omega) ?_; intro v7 w7 h7)
  go_ret2
  have hb7 := h7.below f6 hb36.size
  exact ⟨_, rfl, h7.own, (h7.fr f6 hb36.size).mono B3.size, below_and B3 le (hb36.trans hb7)⟩
end Go.Proofs.Ytmfmfjndigjlfab
