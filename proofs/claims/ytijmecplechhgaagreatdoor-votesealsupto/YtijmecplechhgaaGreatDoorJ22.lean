/- catenarylaw06.VoteSeals: its walk. Made by mk13w.py. -/
import Derived.Test.YtijmecplechhgaaGreatDoorJ04
import Derived.Test.YtijmecplechhgaaGreatDoorJ21
import Derived.Test.YtijmecplechhgaaGreatDoorJ20
section
namespace Go.Proofs.YtijmecplechhgaaGreatDoor
open Go.RowKit Oct Sha

theorem shaL_len (l : List Int) : (shaL l).length = 32 := out_len _
theorem signL_len {k : Int} (d : List Int) (ll : List (List Int)) (h0 : 0 ≤ k) (h1 : k ≤ 127) : (signL k d ll).length = 32 := by rw [signL_yes _ _ h0 h1, shaL_len]
theorem verL_same {k : Int} (d : List Int) (ll : List (List Int)) (h0 : 0 ≤ k) (h1 : k ≤ 127) : verL k (signL k d ll) d ll = true := by rw [verL, if_pos ⟨h0, h1⟩, decide_eq_true rfl]

/-- A list of one text, written out. -/
theorem rdl_one (w : World) (x : Int) (h0 : 0 ≤ x) (h1 : x ≤ 255) : Rdl ((w.alloc (.cells #[.int .u8 x] 5 (1, 2))).alloc (.cells #[.slice (some ⟨w.heap.size, 0, none⟩) 1 1] 24)) (.slice (some ⟨w.heap.size + 1, 0, none⟩) 1 1) [[x]] := by
  rw [show w.heap.size + 1 = (w.alloc (.cells #[.int .u8 x] 5 (1, 2))).heap.size by simp]
  exact ⟨[.slice (some ⟨w.heap.size, 0, none⟩) 1 1], rdv_els _ [.slice (some ⟨w.heap.size, 0, none⟩) 1 1] 24 (by simp) (by simp),
    (rd_lit w [x] 5 (1, 2) (fun y hy => by rw [List.mem_singleton.1 hy]; exact ⟨h0, h1⟩) (by simp) (by simp)).below (below_alloc _ _), trivial⟩
theorem below_two (w : World) (o p : Obj) : Below w.heap.size w ((w.alloc o).alloc p) := below_and (below_alloc w o) (Nat.le_refl _) (below_alloc _ p)

end Go.Proofs.YtijmecplechhgaaGreatDoor
end

section
set_option linter.unusedVariables false
namespace Go.Proofs.YtijmecplechhgaaGreatDoor
open Go.RowKit Oct Sha

/-- What the law's own vote signs with. -/
def aliveS : List Int := signL (repL 4) (sL ⟨#[118, 111, 116, 101]⟩) [numsL [2, 1, 0, 3], [120]]
theorem alive_yes : verL (repL 4) aliveS (sL ⟨#[118, 111, 116, 101]⟩) [numsL [2, 1, 0, 3], [120]] = true := verL_same _ _ (by decide) (by decide)
theorem alive_no : verL (repL 4) aliveS (sL ⟨#[118, 111, 116, 101]⟩) [numsL [2, 2, 0, 3], [120]] = false := by kernel_rfl
theorem alive_len : aliveS.length = 32 := signL_len _ _ (by decide) (by decide)

theorem rd_x (w : World) : Rd (w.alloc (.cells #[.int .u8 120] 5 (1, 2))) (.slice (some ⟨w.heap.size, 0, none⟩) 1 1) [120] := rd_lit w [120] 5 (1, 2) (byt_of (by decide)) (by decide) (by decide)
set_option maxRecDepth 10000 in
set_option maxHeartbeats 2000000 in
theorem alive_any (w : World) (ht : Tab w) : Calls Tryz.prog 4 #[] w fun e w' => e = .returned (.bool true) ∧ Below w.heap.size w w' := by
  have le := Nat.le_refl w.heap.size
  have hcv := run_cvt
  have HS := (show Hid (∀ _ : Unit, _) from fun _ => vMake_any (w.alloc (.cells #[.int .u8 120] 5 (1, 2))) 2 1 0 3 4 _ [120] (rd_x w) (by decide) (ht.below (below_alloc _ _)))
  have HL := (show Hid (aliveS.length = 32) from alive_len)
  go_enter Tryz.func4, Tryz.ntmps4
  go_wp2_with fail
  refine (HS.out ()).mono ?_
  rintro e w1 ⟨v1, rfl, r1, hb1⟩
  have B1 : Below w.heap.size w w1 := below_and (below_alloc _ _) le hb1
  have r1 : Rd w1 v1 aliveS := r1.1
  clear HS hb1
  obtain ⟨a1, c1, rfl, hc1⟩ := r1.form
  rw [HL.out] at r1 ⊢
  have hcv2 := run_cvt (w1.alloc (.cells #[.int .i64 4, .slice a1 32 c1] 41)) #[.int .u8 120] 1 1
  rw [show (w1.alloc (.cells #[.int .i64 4, .slice a1 32 c1] 41)).heap.size = w1.heap.size + 1 by simp] at hcv2
  have hrb := Row.new w1 41 [.int .i64 4, .slice a1 32 c1]
  have hb2 := below_alloc w1 (.cells #[.int .i64 4, .slice a1 32 c1] 41)
  have hx := rd_x (w1.alloc (.cells #[.int .i64 4, .slice a1 32 c1] 41))
  rw [show (w1.alloc (.cells #[.int .i64 4, .slice a1 32 c1] 41)).heap.size = w1.heap.size + 1 by simp] at hx
  have b2x := below_alloc (w1.alloc (.cells #[.int .i64 4, .slice a1 32 c1] 41)) (.cells #[.int .u8 120] 5 (1, 2))
  go_wp2_with fail
  have hV := vRight_any _ 2 1 0 3 4 _ [120] hx (by decide) (.slice a1 32 c1) aliveS ((r1.below hb2).below b2x) (((ht.below B1).below hb2).below b2x)
  rw [alive_yes] at hV
  refine hV.mono ?_
  rintro e w3 ⟨rfl, hb3⟩
  have B12 := below_and (below_and hb2 (Nat.le_refl _) b2x) (Nat.le_refl _) hb3
  have B3 := below_and B1 le B12
  have hrb3 : Row w3 w1.heap.size 41 [.int .i64 4, .slice a1 32 c1] := (hrb.below b2x).below hb3
  have r3 := r1.below B12
  have q0 := (hrb3.below (below_alloc w3 (.cells #[.int .u8 120] 5 (1, 2)))).cell (j := 0) rfl
  have q1 := (hrb3.below (below_alloc w3 (.cells #[.int .u8 120] 5 (1, 2)))).cell (j := 1) rfl
  clear hV hcv2 hrb hb2 hx b2x hb3 B12 r1 B1 hrb3
  go_wp2_with fail
  have hV := vRight_any _ 2 2 0 3 4 _ [120] (rd_x w3) (by decide) (.slice a1 32 c1) aliveS (r3.below (below_alloc _ _)) ((ht.below B3).below (below_alloc _ _))
  rw [alive_no] at hV
  refine hV.mono ?_
  rintro e w4 ⟨rfl, hb4⟩
  have B4 := below_and B3 le (below_and (below_alloc w3 _) (Nat.le_refl _) hb4)
  clear hV q0 q1 r3 hb4 B3
  go_wp2_with fail
  go_ret
  exact ⟨rfl, B4⟩
end Go.Proofs.YtijmecplechhgaaGreatDoor
end

section
set_option linter.unusedVariables false
set_option linter.unusedSimpArgs false
namespace Go.Proofs.YtijmecplechhgaaGreatDoor
open Go.RowKit Oct

theorem szV_of {x : PVote} (h : bV x ≤ 2000000) : szV x := by
  simp only [bV, bT] at h
  show szT x.2
  unfold szT
  omega
theorem szL_of {α : Type} {b : Nat} {p : α → Prop} {f : α → Nat} (hf : ∀ y, 1 ≤ f y) {ys : List α} (hb : b ≤ 1000) (h : bL f ys ≤ 2000000) (hp : ∀ y, f y ≤ 2000000 → p y) : szL b p ys := by
  simp only [bL] at h
  have h1 := len_bS hf ys
  have h2 : ys.length * b ≤ 2000000 * 1000 := Nat.mul_le_mul (by omega) hb
  exact ⟨by omega, fun y hy => hp y (by have := bS_mem (f := f) hy; omega)⟩
theorem szQ_of {x : PReq} (h : bQ x ≤ 2000000) : szQ x := by
  simp only [bQ, bT] at h
  exact ⟨by unfold szT; omega, by unfold szT; omega⟩
theorem szP_of {x : PPrep} (h : bP x ≤ 2000000) : szP x := by
  simp only [bP] at h
  exact ⟨szQ_of (by omega), szL_of (f := bV) (fun y => by simp only [bV]; omega) (by decide) (by omega) fun y hy => szV_of hy⟩
theorem szR_of {x : PRep} (h : bR x ≤ 2000000) : szR x := by
  simp only [bR] at h
  refine ⟨?_, szL_of (f := bV) (fun y => by simp only [bV]; omega) (by decide) (by omega) fun y hy => szV_of hy, szL_of (f := bP) (fun y => by simp only [bP]; omega) (by decide) (by omega) fun y hy => szP_of hy, ?_⟩
  · simp only [bT] at h; unfold szT; omega
  · simp only [bT] at h; unfold szT; omega

theorem szM_of {m : PMsg} (h : bM m ≤ 1100000) : szM m := by
  simp only [bM] at h
  exact ⟨szQ_of (by omega), szQ_of (by omega), by simp only [bT] at h; unfold szT; omega, by simp only [bT] at h; unfold szT; omega,
    szL_of (f := bV) (fun y => by simp only [bV]; omega) (by decide) (by omega) fun y hy => szV_of hy, szL_of (f := bV) (fun y => by simp only [bV]; omega) (by decide) (by omega) fun y hy => szV_of hy,
    szL_of (f := fun _ => 1) (fun _ => by omega) (by decide) (by omega) fun _ _ => trivial, szL_of (f := bQ) (fun y => by simp only [bQ]; omega) (by decide) (by omega) fun y hy => szQ_of hy,
    szL_of (f := bR) (fun y => by simp only [bR]; omega) (by decide) (by omega) fun y hy => szR_of hy⟩
theorem seaB_byt {w : World} {m : PMsg} {s : SV} (h : SOk Any w m s) (hb : bM m ≤ 1048576) : Byt (seaB m) := by
  have hz : bM m ≤ 1100000 := by omega
  have hF : ∀ {i : Nat}, i < 15 → Byt (wrF (wsM m []) i) := by
    intro i hi
    unfold wsM
    split
    · rcases lt15 hi with rfl | rfl | rfl | rfl | rfl | rfl | rfl | rfl | rfl | rfl | rfl | rfl | rfl | rfl | rfl
      · exact h.byt hz (i := 0) (by omega)
      · exact h.byt hz (i := 1) (by omega)
      · exact h.byt hz (i := 2) (by omega)
      · exact h.byt hz (i := 3) (by omega)
      · exact h.byt hz (i := 4) (by omega)
      · exact h.byt hz (i := 5) (by omega)
      · exact h.byt hz (i := 6) (by omega)
      · exact h.byt hz (i := 7) (by omega)
      · exact h.byt hz (i := 8) (by omega)
      · exact h.byt hz (i := 9) (by omega)
      · exact h.byt hz (i := 10) (by omega)
      · exact h.byt hz (i := 11) (by omega)
      · exact h.byt hz (i := 12) (by omega)
      · exact h.byt hz (i := 13) (by omega)
      · refine cL_byt fun y hy => ?_
        obtain ⟨x, hx, rfl⟩ := List.mem_map.1 hy
        obtain ⟨r, d, s', p, g, e, h1, h2, h3, h4⟩ := h.l.each x hx
        refine rep_byt (G := Any) (w := w) (r := [.int .i64 x.1.1, .int .i64 x.1.2, .int .i64 x.2.1, .int .i64 x.2.2.1, d, s', p, .slice none 0 0]) ⟨d, s', p, _, rfl, h1, h2, h3, RT.nil _ _⟩ ?_
        have := bS_mem (f := bR) hx
        simp only [bM, bL] at hz
        simp only [repSig, bR, bT, List.length_nil] at this ⊢
        omega
    · have h' : SOk Any w { m with sig := [] } { s with s := .slice none 0 0 } := ⟨h.o, h.g, h.o', h.g', h.d, RT.nil _ _, h.c, h.v, h.n, h.p, h.l⟩
      exact h'.byt (by simp only [bM, bT, List.length_nil] at hz ⊢; omega) hi
  have hFs : ∀ (fs : List Nat), (∀ i ∈ fs, i < 15) → Byt (wrFs (wsM m []) fs) := by
    intro fs
    induction fs with
    | nil => intro _; simp only [wrFs]; exact Byt.nil
    | cons i fs ih => intro hf; rw [wrFs_cons]; exact (hF (hf i (by simp))).app (ih fun j hj => hf j (by simp [hj]))
  unfold seaB encB
  split
  · exact (outI_byt _).app (hFs _ fun i hi => nice_lt (fl_nice _) i hi)
  · exact Byt.nil
set_option maxRecDepth 10000 in
set_option maxHeartbeats 16000000 in
theorem seals_any (w : World) (m : PMsg) (s : SV) (i : Int) (hs : SOk Any w m s) (hb : bM m ≤ 1048576) (hT : Tab w) : Calls Tryz.prog 3 #[.agg (mc m s).toArray, .int .i64 i] w fun e w' => e = .returned (.bool true) ∧ Below w.heap.size w w' := by
  have le := Nat.le_refl w.heap.size
  have hz : szM m := szM_of (by omega)
  obtain ⟨w0, hw0, x0, B0⟩ := boxM w m s
  go_enter Tryz.func3, Tryz.ntmps3
  go_upto_region 1 with fail
  rw [← hw0]
  clear hw0
  go_upto_region 3 with (go_at_call 4; refine (alive_any w0 (hT.below B0)).mono ?_; rintro e w1 ⟨rfl, hb1⟩)
  have B1 := below_and B0 le hb1
  have x1 := x0.below hb1
  have hC := copyMsg_any w1 m s (hs.below B1) hz
  clear hb1 B0 x0
  go_upto_region 4 with (first
    | (refine wl_load rfl _ _ rfl w.heap.size rfl _ _ x1 _ Tryz.underlying32 rfl (by kernel_rfl) ?_)
    | (go_at_call 5; refine hC.mono ?_; rintro e w2 ⟨s2, rfl, hs2, hb2⟩; have n2 := Row.new w2 32 (mc zeroM sv0); have k2 := hs2.one)
    | (refine wl_store rfl _ _ _ rfl w2.heap.size (mc m s2) rfl rfl _ _ n2 rfl (by kernel_rfl) k2 ?_; intro w3 hr3 hg3))
  have hb3 : Below w2.heap.size w2 w3 := (below_alloc w2 (.cells (mc zeroM sv0).toArray 32)).trans (grown_below hg3 (by simp) (fun k hk => by cases hk; exact Nat.le_refl _))
  have hb13 := below_and hb2 (Nat.le_refl _) hb3
  have B3 := below_and B1 le hb13
  have x3 := x1.below hb13
  have y3 := hr3.out
  have hs3 : SOk Any w3 m s2 := (hs2.mv (Nat.le_refl _) Mv.any).below hb3
  obtain ⟨b5, hb5⟩ : ∃ b5, b5 = w2.heap.size := ⟨_, rfl⟩
  rw [← hb5] at y3 ⊢
  have hSe := seal_any w3 m s2 i hs3 hz (hT.below B3)
  clear hC hb2 hb3 hb13 hr3 hg3 n2 k2 B1 x1 hs2 hb5
  go_upto_region 5 with (first
    | (refine wl_load rfl _ _ rfl b5 rfl _ _ y3 _ Tryz.underlying32 rfl (by kernel_rfl) ?_)
    | (go_at_call 6; refine hSe.mono ?_; rintro e w4 ⟨s4, rfl, hs4, hb4⟩; have n4 := Row.new w4 32 (mc zeroM sv0); have k4 := hs4.one)
    | (refine wl_store rfl _ _ _ rfl w4.heap.size (mc (wsM m (seaS m i)) s4) rfl rfl _ _ n4 rfl (by kernel_rfl) k4 ?_; intro w5 hr5 hg5))
  have hb45 : Below w4.heap.size w4 w5 := (below_alloc w4 (.cells (mc zeroM sv0).toArray 32)).trans (grown_below hg5 (by simp) (fun k hk => by cases hk; exact Nat.le_refl _))
  have hb35 := below_and hb4 (Nat.le_refl _) hb45
  have B5 := below_and B3 le hb35
  have x5 := x3.below hb35
  have y5 := y3.below hb35
  have z5 := hr5.out
  have hs5 := hs3.below hb35
  have hm5 : SOk Any w5 (wsM m (seaS m i)) s4 := (hs4.mv (Nat.le_refl _) Mv.any).below hb45
  obtain ⟨b6, hb6⟩ : ∃ b6, b6 = w4.heap.size := ⟨_, rfl⟩
  rw [← hb6] at z5 ⊢
  have hTx := sealText_any w5 m s2 i hs5
  clear hSe hb4 hb45 hb35 hr5 hg5 n4 k4 B3 x3 y3 hs3 hs4 hb6
  go_upto_region 6 with (first
    | (refine wl_load rfl _ _ rfl b5 rfl _ _ y5 _ Tryz.underlying32 rfl (by kernel_rfl) ?_)
    | (go_at_call 7; refine hTx.mono ?_; rintro e w6 ⟨v6, rfl, o6, f6, hb6⟩))
  have B6 := below_and B5 le hb6
  have y6 := y5.below hb6
  have hs6 := hs5.below hb6
  have hSd := sealed_any w6 m s2 i hs6 (hT.below B6)
  clear hTx
  go_upto_region 7 with (first
    | (refine wl_load rfl _ _ rfl b5 rfl _ _ y6 _ Tryz.underlying32 rfl (by kernel_rfl) ?_)
    | (go_at_call 8; refine hSd.mono ?_; rintro e w7 ⟨rfl, hb7⟩))
  have hb57 := below_and hb6 (Nat.le_refl _) hb7
  have B7 := below_and B5 le hb57
  have x7 := x5.below hb57
  have y7 := y5.below hb57
  have z7 := z5.below hb57
  have hs7 := hs5.below hb57
  have hm7 := hm5.below hb57
  have hg7 := hs.below B7
  have o7 := o6.below hb7
  have hby : Byt (seaT m i) := by
    unfold seaT
    split
    · exact textL_byt _ _ _ (fun x hx => by rw [List.mem_singleton.1 hx]; exact seaB_byt hs hb) (by have := domS_size m; have := seaB_len m; simp only [tot]; omega)
    · exact Byt.nil
  obtain ⟨a7, c7, e7, _⟩ := o7.form
  rw [bc_len] at e7
  obtain ⟨N, hN⟩ : ∃ N, N = (seaT m i).length := ⟨_, rfl⟩
  rw [← hN] at e7
  subst e7
  have hws := seaQ_ws m i
  rw [← hN] at hws
  obtain ⟨M, hM⟩ : ∃ M, M = wsM m (seaS m i) := ⟨_, rfl⟩
  have hdw : Below w7.heap.size w7 w7.drew := ⟨rfl, rfl, rfl, Nat.le_refl _, fun _ _ => rfl⟩
  have HSE := (show Hid (∀ u, Below w7.heap.size w7 u → Calls Tryz.prog 10 #[.agg (mc m s).toArray, .int .i64 i] u fun e w' => ∃ t, e = .returned (.agg (mc M t).toArray) ∧ SOk Any w' M t ∧ Below u.heap.size u w') from fun u hu => by rw [hM]; exact refSeal_any u m s i (hg7.below hu) hz hb)
  rw [← hM] at hm7 z7 hws
  have HSM := (show Hid (∀ u t, Below w7.heap.size w7 u → SOk Any u M t → Calls Tryz.prog 9 #[.agg (mc M s4).toArray, .agg (mc M t).toArray] u fun e w' => e = .returned (.bool true) ∧ Below u.heap.size u w') from fun u t hu ht => sameMsg_eq u M s4 t (hm7.below hu) ht)
  have HST := (show Hid (∀ u, Below w7.heap.size w7 u → Calls Tryz.prog 12 #[.agg (mc m s).toArray, .int .i64 i] u fun e w' => ∃ v, e = .returned v ∧ Own w' 5 v (bc (seaT m i)) ∧ Below u.heap.size u w') from fun u hu => (refSealText_any u m s i (hg7.below hu) hz hb).mono fun e w' ⟨v, e1, e2, _, e4⟩ => ⟨v, e1, e2, e4⟩)
  have HS1 := (show Hid (∀ u v, Below w7.heap.size w7 u → Own u 5 v (bc (seaT m i)) → Calls Tryz.prog 11 #[.slice a7 N c7, v] u fun e w' => e = .returned (.bool true) ∧ w' = u) from fun u v hu ho => same_eq_any u _ v (seaT m i) ((o7.below hu).rd hby) (ho.rd hby))
  have HSD := (show Hid (∀ u, Below w7.heap.size w7 u → Calls Tryz.prog 13 #[.agg (mc m s).toArray, .int .i64 i] u fun e w' => e = .returned (.bool (seaQ m i)) ∧ Below u.heap.size u w') from fun u hu => refSealed_any u m s i (hg7.below hu) hz hb)
  have HSO := (show Hid (∀ u, Below w7.heap.size w7 u → Calls Tryz.prog 9 #[.agg (mc m s2).toArray, .agg (mc m s).toArray] u fun e w' => e = .returned (.bool true) ∧ Below u.heap.size u w') from fun u hu => sameMsg_eq u m s2 s (hs7.below hu) (hg7.below hu))
  have HG2 := (show Hid (∀ u, Below w7.heap.size w7 u → u.rangeAt w.heap.size 0 (mc m s)) from fun u hu j x hx => by rw [Nat.zero_add]; exact (x7.below hu).cell hx)
  have HG5 := (show Hid (∀ u, Below w7.heap.size w7 u → u.rangeAt b5 0 (mc m s2)) from fun u hu j x hx => by rw [Nat.zero_add]; exact (y7.below hu).cell hx)
  have HG6 := (show Hid (∀ u, Below w7.heap.size w7 u → u.rangeAt b6 0 (mc M s4)) from fun u hu j x hx => by rw [Nat.zero_add]; exact (z7.below hu).cell hx)
  have HRZ := (show Hid (∀ u, Below w7.heap.size w7 u → Row u b6 32 (mc M s4) ∧ Below w.heap.size w u) from fun u hu => ⟨z7.below hu, below_and B7 le hu⟩)
  have HSZ := (show Hid (∀ u, Below w7.heap.size w7 u → Calls Tryz.prog 8 #[.agg (mc M s4).toArray, .int .i64 i] u fun e w' => e = .returned (.bool (decide (0 < N))) ∧ Below u.heap.size u w') from fun u hu => by
    have := sealed_any u M s4 i (hm7.below hu) (hT.below (below_and B7 le hu))
    rwa [hws] at this)
  obtain ⟨qq, hqq⟩ : ∃ qq, qq = seaQ m i := ⟨_, rfl⟩
  rw [← hqq] at HSD ⊢
  have hne : (qq != qq) = false := by simp
  clear hSd hN hM hws hqq hs7 hm7 hg7 o7 x7 y7 z7 o6 f6 hb6 hb7 hb57 x5 y5 z5 y6 hs5 hs6 hm5 B5 B6 B7 hs hz hb hT hby
  try go_simp
  refine wp_region_held_drew (S := fun u => Below w7.heap.size w7 u) (by kernel_rfl) hdw (fun hHeld => ?_)
  clear hHeld
  refine wpAnyH_take (i := 0) (v := .agg (mc M s4).toArray) rfl (by kernel_rfl) (by kernel_rfl) (by kernel_rfl) (fun _ _ _ h => h) (yieldsIf_load_mid (by kernel_rfl) _ _ rfl b6 0 rfl (mc M s4) _ HG6.out Tryz.underlying32 rfl (by kernel_rfl)) hdw ?_
  simp only [Act.put, List.setIfInBounds_toArray, List.set_cons_zero, List.set_cons_succ]
  refine wpAnyH_take (i := 1) (v := .agg (mc m s).toArray) rfl (by kernel_rfl) (by kernel_rfl) (by kernel_rfl) (fun _ _ _ h => h) (yieldsIf_load_mid (by kernel_rfl) _ _ rfl w.heap.size 0 rfl (mc m s) _ HG2.out Tryz.underlying32 rfl (by kernel_rfl)) hdw ?_
  simp only [Act.put, List.setIfInBounds_toArray, List.set_cons_zero, List.set_cons_succ]
  refine wpAnyH_take (i := 2) (v := .int .i64 i) rfl (by kernel_rfl) (by kernel_rfl) (by kernel_rfl) (fun _ _ _ h => h) (Or.inl ⟨by kernel_rfl, fun u hSu => by go_simp⟩) hdw ?_
  simp only [Act.put, List.setIfInBounds_toArray, List.set_cons_zero, List.set_cons_succ]
  refine wpAnyH_ready (rs := [3]) (by kernel_rfl) (by simp) ?_
  refine AllReadyH.cons (o := _) rfl (fun K hK => ?_) AllReadyH.nil
  go_simp
  refine (HSE.out w7.drew hdw).mono ?_
  rintro e u1 ⟨t1, rfl, ht1, y1⟩
  have b1 := below_and hdw (Nat.le_refl _) y1
  try go_simp
  refine hK.out _ _ b1 (fun hHeld => ?_)
  clear hK K hHeld
  refine wpAnyH_ready (rs := [4]) (by kernel_rfl) (by simp) ?_
  refine AllReadyH.cons (o := _) rfl (fun K hK => ?_) AllReadyH.nil
  go_simp
  refine (HSM.out u1 t1 b1 ht1).mono ?_
  rintro e u2 ⟨rfl, y2⟩
  have b2 := below_and b1 (Nat.le_refl _) y2
  try go_simp
  refine hK.out _ _ b2 (fun hHeld => ?_)
  clear hK K hHeld
  refine wpAnyH_ready (rs := [5]) (by kernel_rfl) (by simp) ?_
  refine AllReadyH.cons (o := _) rfl (fun K hK => ?_) AllReadyH.nil
  go_simp
  refine hK.out _ _ b2 (fun hHeld => ?_)
  clear hK K hHeld
  refine wpAnyH_ready (rs := [6]) (by kernel_rfl) (by simp) ?_
  refine AllReadyH.cons (o := _) rfl (fun K hK => ?_) AllReadyH.nil
  go_simp
  refine hK.out _ _ b2 (fun hHeld => ?_)
  clear hK K hHeld
  refine wpAnyH_take (i := 7) (v := (.slice a7 N c7)) rfl (by kernel_rfl) (by kernel_rfl) (by kernel_rfl) (fun _ _ _ h => h) (Or.inl ⟨by kernel_rfl, fun u hSu => by go_simp⟩) b2 ?_
  simp only [Act.put, List.setIfInBounds_toArray, List.set_cons_zero, List.set_cons_succ]
  refine wpAnyH_take (i := 8) (v := .agg (mc m s).toArray) rfl (by kernel_rfl) (by kernel_rfl) (by kernel_rfl) (fun _ _ _ h => h) (yieldsIf_load_mid (by kernel_rfl) _ _ rfl w.heap.size 0 rfl (mc m s) _ HG2.out Tryz.underlying32 rfl (by kernel_rfl)) b2 ?_
  simp only [Act.put, List.setIfInBounds_toArray, List.set_cons_zero, List.set_cons_succ]
  refine wpAnyH_take (i := 9) (v := .int .i64 i) rfl (by kernel_rfl) (by kernel_rfl) (by kernel_rfl) (fun _ _ _ h => h) (Or.inl ⟨by kernel_rfl, fun u hSu => by go_simp⟩) b2 ?_
  simp only [Act.put, List.setIfInBounds_toArray, List.set_cons_zero, List.set_cons_succ]
  refine wpAnyH_ready (rs := [10]) (by kernel_rfl) (by simp) ?_
  refine AllReadyH.cons (o := _) rfl (fun K hK => ?_) AllReadyH.nil
  go_simp
  refine (HST.out u2 b2).mono ?_
  rintro e u3 ⟨v3, rfl, o3, y3⟩
  have b3 := below_and b2 (Nat.le_refl _) y3
  try go_simp
  refine hK.out _ _ b3 (fun hHeld => ?_)
  clear hK K hHeld
  refine wpAnyH_ready (rs := [11]) (by kernel_rfl) (by simp) ?_
  refine AllReadyH.cons (o := _) rfl (fun K hK => ?_) AllReadyH.nil
  go_simp
  refine (HS1.out u3 v3 b3 o3).mono ?_
  rintro e u3 ⟨rfl, rfl⟩
  try go_simp
  refine hK.out _ _ b3 (fun hHeld => ?_)
  clear hK K hHeld
  refine wpAnyH_ready (rs := [12]) (by kernel_rfl) (by simp) ?_
  refine AllReadyH.cons (o := _) rfl (fun K hK => ?_) AllReadyH.nil
  go_simp
  refine hK.out _ _ b3 (fun hHeld => ?_)
  clear hK K hHeld
  refine wpAnyH_ready (rs := [13]) (by kernel_rfl) (by simp) ?_
  refine AllReadyH.cons (o := _) rfl (fun K hK => ?_) AllReadyH.nil
  go_simp
  refine hK.out _ _ b3 (fun hHeld => ?_)
  clear hK K hHeld
  refine wpAnyH_ready (rs := [14]) (by kernel_rfl) (by simp) ?_
  refine AllReadyH.cons (o := _) rfl (fun K hK => ?_) AllReadyH.nil
  go_simp
  refine hK.out _ _ b3 (fun hHeld => ?_)
  clear hK K hHeld
  refine wpAnyH_take (i := 15) (v := .bool qq) rfl (by kernel_rfl) (by kernel_rfl) (by kernel_rfl) (fun _ _ _ h => h) (Or.inl ⟨by kernel_rfl, fun u hSu => by go_simp⟩) b3 ?_
  simp only [Act.put, List.setIfInBounds_toArray, List.set_cons_zero, List.set_cons_succ]
  refine wpAnyH_take (i := 16) (v := .agg (mc m s).toArray) rfl (by kernel_rfl) (by kernel_rfl) (by kernel_rfl) (fun _ _ _ h => h) (yieldsIf_load_mid (by kernel_rfl) _ _ rfl w.heap.size 0 rfl (mc m s) _ HG2.out Tryz.underlying32 rfl (by kernel_rfl)) b3 ?_
  simp only [Act.put, List.setIfInBounds_toArray, List.set_cons_zero, List.set_cons_succ]
  refine wpAnyH_take (i := 17) (v := .int .i64 i) rfl (by kernel_rfl) (by kernel_rfl) (by kernel_rfl) (fun _ _ _ h => h) (Or.inl ⟨by kernel_rfl, fun u hSu => by go_simp⟩) b3 ?_
  simp only [Act.put, List.setIfInBounds_toArray, List.set_cons_zero, List.set_cons_succ]
  refine wpAnyH_ready (rs := [18]) (by kernel_rfl) (by simp) ?_
  refine AllReadyH.cons (o := _) rfl (fun K hK => ?_) AllReadyH.nil
  go_simp
  refine (HSD.out u3 b3).mono ?_
  rintro e u5 ⟨rfl, y5⟩
  have b5' := below_and b3 (Nat.le_refl _) y5
  try go_simp
  refine hK.out _ _ b5' (fun hHeld => ?_)
  clear hK K hHeld
  refine wpAnyH_ready (rs := [19]) (by kernel_rfl) (by simp) ?_
  refine AllReadyH.cons (o := _) rfl (fun K hK => ?_) AllReadyH.nil
  go_simp
  refine hK.out _ _ b5' (fun hHeld => ?_)
  clear hK K hHeld
  refine wpAnyH_ready (rs := [20]) (by kernel_rfl) (by simp) ?_
  refine AllReadyH.cons (o := _) rfl (fun K hK => ?_) AllReadyH.nil
  go_simp
  refine hK.out _ _ b5' (fun hHeld => ?_)
  clear hK K hHeld
  refine wpAnyH_ready (rs := [21]) (by kernel_rfl) (by simp) ?_
  refine AllReadyH.cons (o := _) rfl (fun K hK => ?_) AllReadyH.nil
  go_simp
  refine hK.out _ _ b5' (fun hHeld => ?_)
  clear hK K hHeld
  refine wpAnyH_take (i := 22) (v := .agg (mc m s2).toArray) rfl (by kernel_rfl) (by kernel_rfl) (by kernel_rfl) (fun _ _ _ h => h) (yieldsIf_load_mid (by kernel_rfl) _ _ rfl b5 0 rfl (mc m s2) _ HG5.out Tryz.underlying32 rfl (by kernel_rfl)) b5' ?_
  simp only [Act.put, List.setIfInBounds_toArray, List.set_cons_zero, List.set_cons_succ]
  refine wpAnyH_take (i := 23) (v := .agg (mc m s).toArray) rfl (by kernel_rfl) (by kernel_rfl) (by kernel_rfl) (fun _ _ _ h => h) (yieldsIf_load_mid (by kernel_rfl) _ _ rfl w.heap.size 0 rfl (mc m s) _ HG2.out Tryz.underlying32 rfl (by kernel_rfl)) b5' ?_
  simp only [Act.put, List.setIfInBounds_toArray, List.set_cons_zero, List.set_cons_succ]
  refine wpAnyH_ready (rs := [24]) (by kernel_rfl) (by simp) ?_
  refine AllReadyH.cons (o := _) rfl (fun K hK => ?_) AllReadyH.nil
  go_simp
  refine (HSO.out u5 b5').mono ?_
  rintro e u6 ⟨rfl, y6⟩
  have b6' := below_and b5' (Nat.le_refl _) y6
  try go_simp
  refine hK.out _ _ b6' (fun hHeld => ?_)
  clear hK K hHeld
  refine wpAnyH_ready (rs := [25]) (by kernel_rfl) (by simp) ?_
  refine AllReadyH.cons (o := _) rfl (fun K hK => ?_) AllReadyH.nil
  go_simp
  refine hK.out _ _ b6' (fun hHeld => ?_)
  clear hK K hHeld
  refine wpAnyH_ready (rs := [26]) (by kernel_rfl) (by simp) ?_
  refine AllReadyH.cons (o := _) rfl (fun K hK => ?_) AllReadyH.nil
  go_simp
  refine hK.out _ _ b6' (fun hHeld => ?_)
  clear hK K hHeld
  refine wpAnyH_done (by kernel_rfl) ?_ _
  obtain ⟨rz, BZ⟩ := HRZ.out u6 b6'
  by_cases hp : 0 < N
  · have hp' : (0 : Int) < (N : Int) := by omega
    have HSF := HSZ.out u6 b6'
    rw [decide_eq_true hp] at HSF
    go_wp2_with (first
      | (refine wl_load rfl _ _ rfl b6 rfl _ _ rz _ Tryz.underlying32 rfl (by kernel_rfl) ?_)
      | (go_at_call 8; refine HSF.mono ?_; rintro e u7 ⟨rfl, y7⟩))
    go_ret
    exact ⟨rfl, below_and BZ le y7⟩
  · have hp0 : N = 0 := by omega
    subst hp0
    have HSF := HSZ.out u6 b6'
    rw [show decide (0 < 0) = false from rfl] at HSF
    go_wp2_with (first
      | (refine wl_load rfl _ _ rfl b6 rfl _ _ rz _ Tryz.underlying32 rfl (by kernel_rfl) ?_)
      | (go_at_call 8; refine HSF.mono ?_; rintro e u7 ⟨rfl, y7⟩))
    go_ret
    exact ⟨rfl, below_and BZ le y7⟩
end Go.Proofs.YtijmecplechhgaaGreatDoor
end
