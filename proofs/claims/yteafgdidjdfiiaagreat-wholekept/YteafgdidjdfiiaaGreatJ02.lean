/- The document's copies of entries and operations. -/
import Derived.Test.YteafgdidjdfiiaaGreatJ01
import Derived.Lib.SlBytesConst
section
set_option linter.unusedVariables false
set_option linter.unusedSimpArgs false
namespace Go.Proofs.YteafgdidjdfiiaaGreat
open Go.RowKit Oct Kvl

theorem there_do {ys : List PEnt} {o : POp} {u : List Int} (h : getR o.2.1 ys = some u) : thereL ys (pos o.2.1 ys) o.2.1 u o = doR ys o := by
  unfold thereL doR
  rw [h]
  simp only
  by_cases h1 : o.1 = 1
  · rw [if_pos h1, if_pos h1]
  rw [if_neg h1, if_neg h1]
  by_cases h2 : o.1 = 2
  · rw [if_pos h2, if_pos h2, put_old h]
  rw [if_neg h2, if_neg h2]
  by_cases h3 : o.1 = 3
  · rw [if_pos h3, if_pos h3, put_old h]
  rw [if_neg h3, if_neg h3, del_old h]
def addL (ys : List PEnt) (p : Nat) (o : POp) : List PEnt × Int × List Int := if 64 ≤ ys.length then (ys, 3, []) else (insL p (o.2.1, o.2.2.1) ys, 0, [])
theorem add_do {ys : List PEnt} {o : POp} (h : getR o.2.1 ys = none) (hk : o.1 = 2) : addL ys (pos o.2.1 ys) o = doR ys o := by
  unfold addL doR insL
  rw [h]
  simp only
  rw [if_pos hk, put_new h]
theorem miss_do {ys : List PEnt} {o : POp} (h : getR o.2.1 ys = none) (hk : o.1 ≠ 2) : (ys, 1, []) = doR ys o := by
  unfold doR
  rw [h]
  simp only
  rw [if_neg hk]

theorem LB.weak {α : Type} {R : (Nat → Prop) → World → List Value → α → Prop} (hR : Mov R) {t : TypeId} {k B C : Nat} {w : World} {v : Value} {ys : List α} (h : LB R t k B w v ys) (hC : C ≤ B) : LB R t k C w v ys := by
  obtain ⟨rows, h0, h1, h2, h3⟩ := h
  exact ⟨rows, h0, h1, h2.mono hC, h3.mono fun r a h => hR _ _ w w r a h (Nat.le_refl _) fun j hj _ => ⟨rfl, Nat.le_trans hC hj.1, hj.2⟩⟩

set_option maxRecDepth 10000 in
set_option maxHeartbeats 4000000 in
/-- kv.add. -/
theorem add_any (w : World) (v : Value) (B : Nat) (ys : List PEnt) (h : LB OEnt 73 2 B w v ys) (hB : B ≤ w.heap.size) (hn : ys.length ≤ 64) (p : Nat) (hp : p ≤ ys.length) (r : List Value) (o : POp) (ho : ROp Any w r o) (hzo : szO o) :
    Calls Tryz.prog 93 #[v, .int .i64 (p : Int), .agg r.toArray] w (Rp B w (addL ys p o)) := by
  obtain ⟨k, on, oa, ob, onum⟩ := o
  obtain ⟨vn, va, vb, rfl, rn, ra', rb'⟩ := ho
  obtain ⟨z1, z2, z3⟩ := hzo
  simp only at rn ra' rb' z1 z2 z3
  obtain ⟨an, cn, rfl, hcn⟩ := rn.form
  obtain ⟨aa, ca, rfl, hca⟩ := ra'.form
  obtain ⟨w0, hw0⟩ : ∃ w0, w0 = (w.alloc (.cells #[.int .i64 k, .slice an on.length cn, .slice aa oa.length ca, vb, .int .i64 onum] 127)).alloc (.cells #[.int .i64 0, .slice none 0 0] 30) := ⟨_, rfl⟩
  have ra : Row w0 w.heap.size 127 [.int .i64 k, .slice an on.length cn, .slice aa oa.length ca, vb, .int .i64 onum] := by rw [hw0]; exact rowA (Row.new w 127 _) _
  have rr : Row w0 (w.heap.size + 1) 30 [.int .i64 0, .slice none 0 0] := by
    rw [hw0]
    have := Row.new (w.alloc (.cells #[.int .i64 k, .slice an on.length cn, .slice aa oa.length ca, vb, .int .i64 onum] 127)) 30 [.int .i64 0, .slice none 0 0]
    simpa using this
  have B0 : Below w.heap.size w w0 := by rw [hw0]; exact ((Below.refl _ w).alloc (Nat.le_refl _) _).alloc (by simp) _
  have hl0 := h.below mov_oent B0
  have hvlt := h.lt
  have hform : ∃ ao cap, v = .slice ao ys.length cap := by
    obtain ⟨ao, cap, e, _⟩ := (h.rl mov_oent).form
    exact ⟨ao, cap, e⟩
  have a1 := ra.cell (j := 1) rfl
  have a2 := ra.cell (j := 2) rfl
  by_cases h64 : 64 ≤ ys.length
  · rw [addL, if_pos h64]
    obtain ⟨ao, cap, rfl⟩ := hform
    have h64' : (64 : Int) ≤ ys.length := by omega
    go_enter Tryz.func93, Tryz.ntmps93
    go_upto_region 1 with fail
    rw [← hw0]
    clear hw0
    go_wp2_with (refine wl_store rfl _ _ _ rfl (w.heap.size + 1) [.int .i64 3, .slice none 0 0] rfl rfl _ _ rr rfl (by kernel_rfl) (one_res rfl) ?_; intro w5 hr5 hg5)
    refine bodyPost_ret (results_tc rfl _ _ (w.heap.size + 1) _ _ (0, 0) _ (by rfl) hr5.out Tryz.underlying30 rfl (by kernel_rfl)) rfl ?_
    exact ⟨_, _, rfl, hl0.grownR rr (by decide) (by decide) hg5, OT.nil _ _, (B0.mono hB).trans (grown_below hg5 (Nat.le_trans hB B0.size) (fun k hk => by cases hk; omega))⟩
  rw [addL, if_neg h64]
  have h64' : decide ((64 : Int) ≤ ys.length) = false := by simp; omega
  have hC := cloneEntry_any w0 [.slice an on.length cn, .slice aa oa.length ca] (on, oa) ⟨_, _, rfl, rn.mv (Mv.below B0), ra'.mv (Mv.below B0)⟩ ⟨z1, z2⟩
  have HL0 := (show Hid (LB OEnt 73 2 B w0 v ys) from hl0)
  have HLT := (show Hid (∀ g, v.ownBlock = some g → g < w.heap.size) from hvlt)
  have HFR := (show Hid (∀ g, v.ownBlock = some g → B ≤ g) from h.fr)
  clear hl0 hvlt h
  have HI := (show Hid (∀ (u : World) (vb : Nat) (r : List Value), LB OEnt 73 2 B u v ys → B ≤ u.heap.size → Row u vb 73 r → v.ownBlock ≠ some vb → OEnt (fun b => B ≤ b ∧ v.ownBlock ≠ some b) u r (on, oa) → Calls Tryz.prog 110 #[v, .int .i64 (p : Int), .slice (some ⟨vb, 0, none⟩) 1 1] u fun e w' => ∃ v', e = .returned v' ∧ LB OEnt 73 2 B w' v' (insL p (on, oa) ys) ∧ u.grownBy w' v.ownBlock) from fun u vb r h1 h2 h3 h4 h5 => insert_any u v B ys h1 h2 hn p hp vb r h3 h4 (on, oa) h5)
  obtain ⟨ao, cap, rfl⟩ := hform
  go_enter Tryz.func93, Tryz.ntmps93
  go_upto_region 1 with fail
  rw [← hw0]
  clear hw0
  go_wp2_with (first
    | (go_at_call 69; refine hC.mono ?_; rintro e w3 ⟨r3, rfl, o3, hb3⟩; obtain ⟨p3, q3, rfl, t3, t4⟩ := o3; obtain ⟨ax3, cx3, rfl, hcx3⟩ := t3.rt.form; obtain ⟨ax4, cx4, rfl, hcx4⟩ := t4.rt.form; have n3 := Row.new w3 73 [.slice none 0 0, .slice none 0 0])
    | (refine wl_store rfl _ _ _ rfl w3.heap.size [.slice ax3 on.length cx3, .slice ax4 oa.length cx4] rfl rfl _ _ n3 rfl (by kernel_rfl) (onE2 rfl rfl) ?_; intro w4 hr4 hg4; have hb4 : Below w3.heap.size w3 w4 := (below_alloc w3 _).trans (grown_below hg4 (by simp) (fun k hk => by cases hk; exact Nat.le_refl _)))
    | (refine wl_load rfl _ _ rfl w3.heap.size rfl _ _ hr4.out _ Tryz.underlying73 rfl (by kernel_rfl) ?_))
  obtain ⟨w5, hw5⟩ : ∃ w5, w5 = w4.alloc (.cells #[.slice ax3 on.length cx3, .slice ax4 oa.length cx4] 73) := ⟨_, rfl⟩
  have n5 : Row w5 w4.heap.size 73 [.slice ax3 on.length cx3, .slice ax4 oa.length cx4] := by rw [hw5]; exact Row.new w4 _ _
  have b5 : Below w4.heap.size w4 w5 := by rw [hw5]; exact below_alloc _ _
  rw [← hw5]
  clear hw5
  have b35 := below_and hb4 (Nat.le_refl _) b5
  have b05 := below_and hb3 (Nat.le_refl _) b35
  have bw5 := below_and B0 (Nat.le_refl _) b05
  have hmv : Mv (From w0.heap.size) (fun b => B ≤ b ∧ (Value.slice ao ys.length cap).ownBlock ≠ some b) w3 w5 := fun j hj hlt => ⟨b35.block j hlt, Nat.le_trans hB (Nat.le_trans B0.size hj), fun e => by
    have h1 := HLT.out j e
    have h2 := B0.size
    unfold From at hj
    omega⟩
  refine (HI.out w5 w4.heap.size _ (HL0.out.below mov_oent b05) (Nat.le_trans hB bw5.size) n5 (fun e => by
    have h1 := HLT.out _ e
    have h2 := (below_and B0 (Nat.le_refl _) (below_and hb3 (Nat.le_refl _) hb4)).size
    omega) ⟨_, _, rfl, t3.mv hmv, t4.mv hmv⟩).mono ?_
  rintro e w6 ⟨v6, rfl, hL6, hg6⟩
  have rr6 : Row w6 (w.heap.size + 1) 30 [.int .i64 0, .slice none 0 0] := (rr.below b05).grown hg6 (fun e => by have := HLT.out _ e; omega)
  go_wp2_with (refine wl_store rfl _ _ _ rfl (w.heap.size + 1) [.int .i64 0, .slice none 0 0] rfl rfl _ _ rr6 rfl (by kernel_rfl) (one_res rfl) ?_; intro w7 hr7 hg7)
  refine bodyPost_ret (results_tc rfl _ _ (w.heap.size + 1) _ _ (0, 0) _ (by rfl) hr7.out Tryz.underlying30 rfl (by kernel_rfl)) rfl ?_
  have b6 := (bw5.mono hB).trans (grown_below hg6 (Nat.le_trans hB bw5.size) (fun k hk => HFR.out k hk))
  exact ⟨_, _, rfl, hL6.grownR rr6 (by decide) (by decide) hg7, OT.nil _ _, b6.trans (grown_below hg7 (Nat.le_trans hB (Nat.le_trans bw5.size hg6.size)) (fun k hk => by cases hk; omega))⟩

theorem RT.weak {G : Nat → Prop} {w : World} {v : Value} {l : List Int} (h : RT G w v l) : RT Any w v l := h.mv Mv.any

set_option maxRecDepth 10000 in
set_option maxHeartbeats 4000000 in
/-- kv.Do. -/
theorem do_any (w : World) (v : Value) (ys : List PEnt) (h : RL REnt 2 Any w v ys) (hz : szL 48 szE ys) (r : List Value) (o : POp) (ho : ROp Any w r o) (hzo : szO o) :
    Calls Tryz.prog 79 #[v, .agg r.toArray] w (Rp w.heap.size w (doL ys o)) := by
  have hall := ho
  obtain ⟨vn, va, vb, rfl, rn, ra', rb'⟩ := ho
  obtain ⟨w0, hw0⟩ : ∃ w0, w0 = (w.alloc (.cells #[.int .i64 o.1, vn, va, vb, .int .i64 o.2.2.2.2] 127)).alloc (.cells #[.int .i64 0, .slice none 0 0] 30) := ⟨_, rfl⟩
  have ra : Row w0 w.heap.size 127 [.int .i64 o.1, vn, va, vb, .int .i64 o.2.2.2.2] := by rw [hw0]; exact rowA (Row.new w 127 _) _
  have rr : Row w0 (w.heap.size + 1) 30 [.int .i64 0, .slice none 0 0] := by
    rw [hw0]
    have := Row.new (w.alloc (.cells #[.int .i64 o.1, vn, va, vb, .int .i64 o.2.2.2.2] 127)) 30 [.int .i64 0, .slice none 0 0]
    simpa using this
  have B0 : Below w.heap.size w w0 := by rw [hw0]; exact ((Below.refl _ w).alloc (Nat.le_refl _) _).alloc (by simp) _
  have hs0 : w0.heap.size = w.heap.size + 2 := by rw [hw0]; simp
  have HS0 := (show Hid (w0.heap.size = w.heap.size + 2) from hs0)
  have hC := cloneEntries_any w0 v ys (h.mv mov_ent B0.size (Mv.below B0)) hz
  go_enter Tryz.func79, Tryz.ntmps79
  go_upto_region 1 with fail
  rw [← hw0]
  clear hw0 hs0
  go_wp2_with fail
  refine hC.mono ?_
  rintro e w1 ⟨v1, rfl, hL1, hb1⟩
  have B1 := below_and B0 (Nat.le_refl _) hb1
  have ra1 := ra.below hb1
  have rr1 := rr.below hb1
  clear hC
  go_wp2_with fail
  refine (right_any w1 v ys (h.mv mov_ent B1.size (Mv.below B1))).mono ?_
  rintro e w2 ⟨rfl, hb2⟩
  have B2 := below_and B1 (Nat.le_refl _) hb2
  have ra2 := ra1.below hb2
  have rr2 := rr1.below hb2
  have hL2 := hL1.below mov_oent hb2
  have BB2 := below_and hb1 (Nat.le_refl _) hb2
  clear hb1 hb2 ra1 rr1 hL1 B1
  have fin : ∀ {w3 w4 : World} {v3 vv : Value} {x : List PEnt × Int × List Int}, LB OEnt 73 2 w0.heap.size w3 v3 x.1 → OT (From w0.heap.size) w3 vv x.2.2 → Below w0.heap.size w0 w3 → w3.grownBy w4 (some (w.heap.size + 1)) → x = doL ys o → Rp w.heap.size w (doL ys o) (.returned (.tuple #[v3, .agg #[.int .i64 x.2.1, vv]])) w4 := by
    intro w3 w4 v3 vv x hL ht hb hg e
    rw [← e]
    have hsz := HS0.out
    have b3 := B0.trans (hb.mono B0.size)
    exact ⟨_, _, rfl, (hL.grown mov_oent hg (by omega)).weak mov_oent (by omega), ht.mv (Mv.from hg (by omega) (by omega)), b3.trans (grown_below hg b3.size (fun k hk => by cases hk; omega))⟩
  by_cases hr : rgtL ys
  rotate_left
  · rw [decide_eq_false hr]
    have hd : doL ys o = (ys, 5, []) := do_bad fun h => hr h.1
    have HD := (show Hid ((ys, 5, []) = doL ys o) from hd.symm)
    clear hd
    go_wp2_with (refine wl_store rfl _ _ _ rfl (w.heap.size + 1) [.int .i64 5, .slice none 0 0] rfl rfl _ _ rr2 rfl (by kernel_rfl) (one_res rfl) ?_; intro w7 hr7 hg7)
    refine bodyPost_ret (results_tc rfl _ _ (w.heap.size + 1) _ _ (0, 0) _ (by rfl) hr7.out Tryz.underlying30 rfl (by kernel_rfl)) rfl ?_
    exact fin (x := (ys, 5, [])) hL2 (OT.nil _ _) BB2 hg7 HD.out
  rw [decide_eq_true hr]
  have hW := writable_any w2 _ o (mov_op _ _ _ _ _ _ hall B2.size (Mv.below B2))
  by_cases hw : wok o
  rotate_left
  · rw [decide_eq_false hw] at hW
    have hd : doL ys o = (ys, 5, []) := do_bad fun h => hw h.2.1
    have HD := (show Hid ((ys, 5, []) = doL ys o) from hd.symm)
    clear hd
    go_wp2_with (first
      | (refine wl_load_w rfl _ _ rfl w.heap.size rfl _ _ ra2 _ Tryz.underlying127 rfl (by kernel_rfl) ?_)
      | (go_at_call 90; refine hW.mono ?_; rintro e w3 ⟨rfl, hb3⟩; have rr3 := rr2.below hb3)
      | (refine wl_store rfl _ _ _ rfl (w.heap.size + 1) [.int .i64 5, .slice none 0 0] rfl rfl _ _ rr3 rfl (by kernel_rfl) (one_res rfl) ?_; intro w7 hr7 hg7))
    refine bodyPost_ret (results_tc rfl _ _ (w.heap.size + 1) _ _ (0, 0) _ (by rfl) hr7.out Tryz.underlying30 rfl (by kernel_rfl)) rfl ?_
    exact fin (x := (ys, 5, [])) (hL2.below mov_oent hb3) (OT.nil _ _) (below_and BB2 (Nat.le_refl _) hb3) hg7 HD.out
  rw [decide_eq_true hw] at hW
  by_cases h4 : 5 ≤ o.1
  · have hd : doL ys o = (ys, 5, []) := do_bad fun h => by have := h.2.2; omega
    have HD := (show Hid ((ys, 5, []) = doL ys o) from hd.symm)
    clear hd
    go_wp2_with (first
      | (refine wl_load_w rfl _ _ rfl w.heap.size rfl _ _ ra2 _ Tryz.underlying127 rfl (by kernel_rfl) ?_)
      | (go_at_call 90; refine hW.mono ?_; rintro e w3 ⟨rfl, hb3⟩; have rr3 := rr2.below hb3; have c0 := (ra2.below hb3).cell (j := 0) rfl)
      | (refine wl_store rfl _ _ _ rfl (w.heap.size + 1) [.int .i64 5, .slice none 0 0] rfl rfl _ _ rr3 rfl (by kernel_rfl) (one_res rfl) ?_; intro w7 hr7 hg7))
    refine bodyPost_ret (results_tc rfl _ _ (w.heap.size + 1) _ _ (0, 0) _ (by rfl) hr7.out Tryz.underlying30 rfl (by kernel_rfl)) rfl ?_
    exact fin (x := (ys, 5, [])) (hL2.below mov_oent hb3) (OT.nil _ _) (below_and BB2 (Nat.le_refl _) hb3) hg7 HD.out
  have h4' : decide (5 ≤ o.1) = false := by simp; omega
  have hk1 : 1 ≤ o.1 := hw.1.1
  have HK := (show Hid (doL ys o = doR ys o) from do_yes hr hw (by omega))
  have HRG := (show Hid (rgtL ys) from hr)
  clear hr hw
  go_wp2_with (first
    | (refine wl_load_w rfl _ _ rfl w.heap.size rfl _ _ ra2 _ Tryz.underlying127 rfl (by kernel_rfl) ?_)
    | (go_at_call 90; refine hW.mono ?_; rintro e w3 ⟨rfl, hb3⟩; have rr3 := rr2.below hb3; have ra3 := ra2.below hb3; have c0 := ra3.cell (j := 0) rfl; have c1 := ra3.cell (j := 1) rfl))
  have B3 := below_and B2 (Nat.le_refl _) hb3
  have BB3 := below_and BB2 (Nat.le_refl _) hb3
  have hL3 := hL2.below mov_oent hb3
  clear hW hb3 ra2 rr2 hL2 BB2 B2
  refine (find_any w3 v1 ys ((hL3.rl mov_oent).ent.mv mov_ent (Nat.le_refl _) Mv.any) vn o.2.1 (rn.mv (Mv.below B3)).1 [] HRG.out.2.1 HRG.out.1).mono ?_
  rintro e w4 ⟨rfl, hb4⟩
  have B4 := below_and B3 (Nat.le_refl _) hb4
  have BB4 := below_and BB3 (Nat.le_refl _) hb4
  have hL4 := hL3.below mov_oent hb4
  have rr4 := rr3.below hb4
  have ra4 := ra3.below hb4
  have d0 := ra4.cell (j := 0) rfl
  clear hb4 rr3 ra3 hL3 BB3 B3 c0 c1
  cases hg : getR o.2.1 ys with
  | some u =>
    have hin : isIn o.2.1 ys = true := by unfold isIn; rw [hg]; rfl
    rw [hin]
    have hT := doThere_any w4 v1 w0.heap.size ys hL4 BB4.size HRG.out.1 (pos o.2.1 ys) o.2.1 u (get_some hg) (hz.2 _ (List.mem_of_getElem? (get_some hg))).2 _ o (mov_op _ _ _ _ _ _ hall B4.size (Mv.below B4)) hzo hk1 (by omega)
    rw [there_do hg] at hT
    have HT := (show Hid (∀ _ : Unit, _) from fun _ => hT)
    clear hT
    generalize pos o.2.1 ys = pp at HT ⊢
    go_wp2_with (first
      | (refine wl_load rfl _ _ rfl w.heap.size rfl _ _ ra4 _ Tryz.underlying127 rfl (by kernel_rfl) ?_)
      | (go_at_call 92; refine (HT.out ()).mono ?_; rintro e w5 ⟨v5, vv5, rfl, hL5, t5, hb5⟩; have rr5 : Row w5 (w.heap.size + 1) 30 [.int .i64 0, .slice none 0 0] := (hb5.block _ rr.lt).trans rr4)
      | (refine wl_store rfl _ _ _ rfl (w.heap.size + 1) [.int .i64 (doR ys o).2.1, vv5] rfl rfl _ _ rr5 rfl (by kernel_rfl) (one_res t5.one) ?_; intro w7 hr7 hg7))
    refine bodyPost_ret (results_tc rfl _ _ (w.heap.size + 1) _ _ (0, 0) _ (by rfl) hr7.out Tryz.underlying30 rfl (by kernel_rfl)) rfl ?_
    exact fin (x := doR ys o) hL5 t5 (BB4.trans hb5) hg7 HK.out.symm
  | none =>
    have hin : isIn o.2.1 ys = false := by unfold isIn; rw [hg]; rfl
    rw [hin]
    by_cases h2 : o.1 = 2
    · have hT := add_any w4 v1 w0.heap.size ys hL4 BB4.size HRG.out.1 (pos o.2.1 ys) pos_le _ o (mov_op _ _ _ _ _ _ hall B4.size (Mv.below B4)) hzo
      rw [add_do hg h2] at hT
      have HT := (show Hid (∀ _ : Unit, _) from fun _ => hT)
      clear hT
      have h2' : (o.1 == 2) = true := by simp [h2]
      clear h2
      generalize pos o.2.1 ys = pp at HT ⊢
      go_wp2_with (first
        | (refine wl_load rfl _ _ rfl w.heap.size rfl _ _ ra4 _ Tryz.underlying127 rfl (by kernel_rfl) ?_)
        | (go_at_call 93; refine (HT.out ()).mono ?_; rintro e w5 ⟨v5, vv5, rfl, hL5, t5, hb5⟩; have rr5 : Row w5 (w.heap.size + 1) 30 [.int .i64 0, .slice none 0 0] := (hb5.block _ rr.lt).trans rr4)
        | (refine wl_store rfl _ _ _ rfl (w.heap.size + 1) [.int .i64 (doR ys o).2.1, vv5] rfl rfl _ _ rr5 rfl (by kernel_rfl) (one_res t5.one) ?_; intro w7 hr7 hg7))
      refine bodyPost_ret (results_tc rfl _ _ (w.heap.size + 1) _ _ (0, 0) _ (by rfl) hr7.out Tryz.underlying30 rfl (by kernel_rfl)) rfl ?_
      exact fin (x := doR ys o) hL5 t5 (BB4.trans hb5) hg7 HK.out.symm
    · have HM := (show Hid ((ys, 1, []) = doL ys o) by show _ = _; rw [HK.out]; exact miss_do hg h2)
      have h2' : (o.1 == 2) = false := by simp [h2]
      clear h2
      go_wp2_with (refine wl_store rfl _ _ _ rfl (w.heap.size + 1) [.int .i64 1, .slice none 0 0] rfl rfl _ _ rr4 rfl (by kernel_rfl) (one_res rfl) ?_; intro w7 hr7 hg7)
      refine bodyPost_ret (results_tc rfl _ _ (w.heap.size + 1) _ _ (0, 0) _ (by rfl) hr7.out Tryz.underlying30 rfl (by kernel_rfl)) rfl ?_
      exact fin (x := (ys, 1, [])) hL4 (OT.nil _ _) BB4 hg7 HM.out
end Go.Proofs.YteafgdidjdfiiaaGreat
end

section
set_option linter.unusedVariables false
set_option linter.unusedSimpArgs false
namespace Go.Proofs.YteafgdidjdfiiaaGreat
open Go.RowKit Oct Kvl

theorem litB (w : World) (x : Int) (hx : 0 ≤ x ∧ x ≤ 255) : Rd (w.alloc (.cells #[.int .u8 x] 5 (1, 2))) (.slice (some ⟨w.heap.size, 0, none⟩) 1 1) [x] := by
  refine ⟨fun y hy => by simp at hy; rw [hy]; exact hx, some ⟨w.heap.size, 0, none⟩, 1, rfl, Nat.le_refl _, by decide, fun e => (by cases e), fun a ha j u hu => ?_⟩
  cases ha
  rw [Addr.add_mid, cell_of_row _ _ _ #[.int .u8 x] 5 (1, 2) (heap_alloc_new w _), Nat.zero_add]
  simpa [bc] using hu
theorem cvtB (u : World) (C : Array Value) (n c : Nat) : (convert 28 28 (.slice (some ⟨u.heap.size, 0, none⟩) n c)).run Tryz.prog (u.alloc (.cells C 5)) = .ok (.slice (some ⟨u.heap.size, 0, none⟩) n c) (u.alloc (.cells C 5 (C.size, C.size + 1))) :=
  Lib.run_convert_bytes_const u 28 5 C n c Tryz.underlying28 Tryz.underlying5
theorem cvtB1 (w : World) (o : Obj) (C : Array Value) (n c : Nat) : (convert 28 28 (.slice (some ⟨w.heap.size + 1, 0, none⟩) n c)).run Tryz.prog ((w.alloc o).alloc (.cells C 5)) = .ok (.slice (some ⟨w.heap.size + 1, 0, none⟩) n c) ((w.alloc o).alloc (.cells C 5 (C.size, C.size + 1))) := by
  rw [show w.heap.size + 1 = (w.alloc o).heap.size by simp]
  exact cvtB _ C n c
theorem cvtB2 (w : World) (o p : Obj) (C : Array Value) (n c : Nat) : (convert 28 28 (.slice (some ⟨w.heap.size + 2, 0, none⟩) n c)).run Tryz.prog (((w.alloc o).alloc p).alloc (.cells C 5)) = .ok (.slice (some ⟨w.heap.size + 2, 0, none⟩) n c) (((w.alloc o).alloc p).alloc (.cells C 5 (C.size, C.size + 1))) := by
  rw [show w.heap.size + 2 = ((w.alloc o).alloc p).heap.size by simp]
  exact cvtB _ C n c
theorem rt_any {w : World} {v : Value} {l : List Int} (h : Rd w v l) : RT Any w v l := ⟨h, fun _ _ _ => trivial⟩
theorem alive1 : doL [] (2, [97], [49], [], 0) = ([([97], [49])], 0, []) := by decide
theorem alive2 : doL [([97], [49])] (3, [97], [50], [51], 0) = ([([97], [49])], 2, [49]) := by decide
/-- What Do gives, to read on. -/
theorem Rp.rl {B : Nat} {w : World} {v : Value} {ys : List PEnt} (h : LB OEnt 73 2 B w v ys) : RL REnt 2 Any w v ys := (h.rl mov_oent).ent.mv mov_ent (Nat.le_refl _) Mv.any
theorem str49 : ((strOfNums [49]).toList == ([49] : List UInt8)) = true := by kernel_rfl

end Go.Proofs.YteafgdidjdfiiaaGreat
end

section
set_option linter.unusedVariables false
set_option linter.unusedSimpArgs false
namespace Go.Proofs.YteafgdidjdfiiaaGreat
open Go.RowKit Oct Kvl

theorem one5 {a b : Int} {u v x : Value} (hu : u.oneCell' = true) (hv : v.oneCell' = true) (hx : x.oneCell' = true) : ∀ y ∈ [Value.int .i64 a, u, v, x, Value.int .i64 b], y.oneCell' = true := by
  intro y hy
  simp only [List.mem_cons, List.not_mem_nil, or_false] at hy
  rcases hy with rfl | rfl | rfl | rfl | rfl <;> first | rfl | assumption
theorem grown_cellE {w w' : World} {row : Option Nat} {a : Addr} {v : Value} (hg : w.grownBy w' row) (h : w.cell? a = some v) (hn : row ≠ some a.block) : w'.cell? a = some v := by
  rw [World.cell?_of_block (w := w) (w' := w') (a := a) (hg.block a.block (World.block_lt_of_cell? w a h) (fun e => hn e.symm))]
  exact h

end Go.Proofs.YteafgdidjdfiiaaGreat
end
