/- Sealed messages: vote.Sealed. (mk12v.py) -/
import Derived.Test.YtijmecplechhgaaGreatDoorJ18
import Derived.Test.YtijmecplechhgaaGreatDoorJ05
section
set_option linter.unusedVariables false
set_option linter.unusedSimpArgs false
namespace Go.Proofs.YtijmecplechhgaaGreatDoor
open Go.RowKit Oct

theorem rt_own {P : Nat → Prop} {u : World} {v : Value} {g : List Int} {B : Nat} (ho : Own u 5 v (bc g)) (hb : Byt g) (hf : Fr B v) (hP : ∀ k, B ≤ k → P k) : RT P u v g := ⟨ho.rd hb, fun _ k hk => hP k (hf k hk)⟩
theorem own_row_nS {w : World} {e t : TypeId} {b : Nat} {xs ys : List Value} {v : Value} (hr : Row w b t xs) (h : Own w e v ys) (he : e ≠ t) : v.ownBlock ≠ some b := by
  intro hk
  rcases h.2 with ⟨rfl, _⟩ | ⟨g, _, cur, rfl, _, hg, _⟩
  · simp [Value.ownBlock] at hk
  · simp [Value.ownBlock] at hk
    subst hk
    unfold Row at hr
    rw [hg] at hr
    simp at hr
    exact he hr.2
theorem seaS_byt (m : PMsg) (i : Int) : Byt (seaS m i) := by
  unfold seaS
  split
  · exact signL_byt _ _ _
  · exact Byt.nil
set_option maxRecDepth 10000 in
set_option maxHeartbeats 16000000 in
theorem refSeal_no (w : World) (m : PMsg) (s : SV) (i : Int) (hs : SOk Any w m s) (hz : szM m) (hb : bM m ≤ 1048576) (ho : oneM m = false) : Calls Tryz.prog 10 #[.agg (mc m s).toArray, .int .i64 i] w fun e w' => ∃ s', e = .returned (.agg (mc (wsM m (seaS m i)) s').toArray) ∧ SOk Any w' (wsM m (seaS m i)) s' ∧ Below w.heap.size w w' := by
  obtain ⟨w1, hw1⟩ : ∃ w1, w1 = (w.alloc (.cells (mc m s).toArray 32)).alloc (.cells #[.int .i64 0, .int .i64 0, .int .i64 0, .int .i64 0, .int .i64 0, .int .i64 0, .int .i64 0, .int .i64 0, .int .i64 0, .int .i64 0, .slice none 0 0, .slice none 0 0, .int .i64 0, .int .i64 0, .slice none 0 0, .slice none 0 0, .slice none 0 0, .slice none 0 0, .slice none 0 0, .slice none 0 0, .slice none 0 0, .slice none 0 0, .slice none 0 0] 32) := ⟨_, rfl⟩
  have r1 : Row w1 w.heap.size 32 (mc m s) := by rw [hw1]; exact rowA (Row.new w _ _) _
  have rr1 : Row w1 (w.heap.size + 1) 32 (mc zeroM sv0) := by
    have h1 : (w.alloc (.cells (mc m s).toArray 32)).heap.size = w.heap.size + 1 := by simp
    rw [hw1, ← h1]
    exact Row.new (w.alloc (.cells (mc m s).toArray 32)) 32 (mc zeroM sv0)
  have B1 : Below w.heap.size w w1 := by rw [hw1]; exact ((Below.refl _ w).alloc (Nat.le_refl _) _).alloc (by simp) _
  have hz2 : w.heap.size + 2 ≤ w1.heap.size := by rw [hw1]; simp
  have HBa := (show Hid (∀ u, Below w1.heap.size w1 u → Calls Tryz.prog 31 #[.agg (mc m s).toArray] u fun e w' => ∃ s' C, e = .returned (.agg (mc (wsM m []) s').toArray) ∧ SOkL u.heap.size C w' (wsM m []) s' ∧ Below u.heap.size u w') from fun u hu => refBare_any u m s (hs.below (below_and B1 (Nat.le_refl _) hu)) hz)
  have HON := (show Hid (∀ u, Below w1.heap.size w1 u → Calls Tryz.prog 32 #[.agg (mc m s).toArray] u fun e w' => e = .returned (.bool (oneM m)) ∧ Below u.heap.size u w') from fun u hu => refOne_any Any u m s (hs.below (below_and B1 (Nat.le_refl _) hu)))
  have hen : ∀ u s', SOk Any u (wsM m []) s' → Calls Tryz.prog 33 #[.agg (mc (wsM m []) s').toArray] u fun e w' => ∃ v', e = .returned (.tuple #[v', .int .i64 (seaE m)]) ∧ Rd w' v' (seaB m) ∧ Below u.heap.size u w' := fun u s' h => refEncode_any u (wsM m []) s' h (bM_ws hb)
  have hone0 := hs.one
  rw [ho] at HON
  have HW := (show Hid (wsM m (seaS m i) = { m with sig := seaS m i }) by show _ = _; unfold wsM; rw [if_neg (by simp [ho])])
  clear ho
  by_cases h0 : seaE m = 0
  case neg =>
    have HS := (show Hid (seaS m i = []) by show _ = _; unfold seaS; rw [if_neg h0])
    obtain ⟨E, hE⟩ : ∃ E, E = seaE m := ⟨_, rfl⟩
    rw [← hE] at hen h0
    have h0' : (E == 0) = false := by simp [h0]
    have HEn := (show Hid (∀ u s', SOk Any u (wsM m []) s' → Calls Tryz.prog 33 #[.agg (mc (wsM m []) s').toArray] u fun e w' => ∃ v', e = .returned (.tuple #[v', .int .i64 E]) ∧ Rd w' v' (seaB m) ∧ Below u.heap.size u w') from hen)
    clear hE hen
    go_enter Tryz.func10, Tryz.ntmps10
    go_upto_region 1 with fail
    rw [← hw1]
    clear hw1
    go_upto_region 2 with (first
      | (refine wl_load rfl _ _ rfl w.heap.size rfl _ _ r1 _ Tryz.underlying32 rfl (by kernel_rfl) ?_)
      | (go_at_call 31; refine (HBa.out w1 (Below.refl _ _)).mono ?_; rintro e wb ⟨sb, C, rfl, hsb, hbb⟩; have honb := hsb.any.one; have rnb := Row.new wb 32 (mc zeroM sv0))
      | (refine wl_store rfl _ _ _ rfl wb.heap.size (mc (wsM m []) sb) rfl rfl _ _ rnb rfl (by kernel_rfl) honb ?_; intro wc rc hgc))
    have r5c := rc.out
    have hbc : Below wb.heap.size wb wc := (below_alloc wb (.cells (mc zeroM sv0).toArray 32)).trans (grown_below hgc (by simp) (fun k hk => by cases hk; exact Nat.le_refl _))
    obtain ⟨b5, hb5⟩ : ∃ b5, b5 = wb.heap.size := ⟨_, rfl⟩
    rw [← hb5] at r5c ⊢
    have hb5g : wb.heap.size ≤ b5 := by omega
    have hb1c := below_and hbb (Nat.le_refl _) hbc
    have r1c := r1.below hb1c
    have hne0 : w.heap.size ≠ b5 := by have := hbb.size; omega
    have hne1 : w.heap.size + 1 ≠ b5 := by have := hbb.size; omega
    clear hb5
    go_upto_region 3 with (first
      | (refine wl_load rfl _ _ rfl w.heap.size rfl _ _ r1c _ Tryz.underlying32 rfl (by kernel_rfl) ?_)
      | (go_at_call 32; refine (HON.out wc hb1c).mono ?_; rintro e wd ⟨rfl, hbd⟩))
    have hb1d := below_and hb1c (Nat.le_refl _) hbd
    have hbbd := below_and hbc (Nat.le_refl _) hbd
    have r1d := r1.below hb1d
    have r5d := r5c.below hbd
    go_upto_region 5 with (first
      | (refine wl_load rfl _ _ rfl w.heap.size rfl _ _ r1d _ Tryz.underlying32 rfl (by kernel_rfl) ?_)
      | (refine wl_store rfl _ _ _ rfl b5 (mc m s) rfl rfl _ _ r5d rfl (by kernel_rfl) hone0 ?_; intro we re hge))
    have r5e : Row we b5 32 (mc m s) := re.out
    have hbde : Below wb.heap.size wb we := hbbd.trans (grown_below hge hbbd.size (fun k hk => by cases hk; omega))
    have hb1e : Below w1.heap.size w1 we := hbb.trans (hbde.mono hbb.size)
    have r1e := r1.below hb1e
    have rr1e := rr1.below hb1e
    clear rc hgc hbc r5c hb1c r1c hbd hb1d hbbd r1d r5d re hge rnb
    obtain ⟨wf, hwf⟩ : ∃ wf, wf = we.alloc (.cells #[] 5) := ⟨_, rfl⟩
    have of := own_zero we 5
    rw [← hwf] at of
    have hbf : Below we.heap.size we wf := by rw [hwf]; exact below_alloc _ _
    have hfz : Fr wb.heap.size (Value.slice (some ⟨we.heap.size, 0, none⟩) 0 0) := fr_at _ _ _ _ hbde.size
    have r1f := r1e.below hbf
    have hb1f := below_and hb1e (Nat.le_refl _) hbf
    go_upto_region 6 with fail
    rw [← hwf]
    clear hwf
    go_upto_region 9 with (first
      | (refine wl_load rfl _ _ rfl w.heap.size rfl _ _ r1f _ Tryz.underlying32 rfl (by kernel_rfl) ?_)
      | (go_at_call 31; refine (HBa.out wf hb1f).mono ?_; rintro e wg ⟨sg, C2, rfl, hsg, hbg⟩)
      | (go_at_call 33; refine (HEn.out wg sg hsg.any).mono ?_; rintro e w2 ⟨sv, rfl, R2, hb2⟩))
    have hb2f := below_and hbg (Nat.le_refl _) hb2
    have hbe2 := below_and hbf (Nat.le_refl _) hb2f
    have hbb2 := below_and hbde (Nat.le_refl _) hbe2
    have hb12 := below_and hb1e (Nat.le_refl _) hbe2
    have B2 := below_and B1 (Nat.le_refl _) hb12
    have hs2 := hs.below B2
    have r2 := r1.below hb12
    have rr2 := rr1.below hb12
    have r52 := r5e.below hbe2
    have HAT := (show Hid (∀ u, Below w2.heap.size w2 u → Row u w.heap.size 32 (mc m s) ∧ Row u (w.heap.size + 1) 32 (mc zeroM sv0) ∧ Row u b5 32 (mc m s) ∧ Below wb.heap.size wb u) from fun u hu => ⟨r2.below hu, rr2.below hu, r52.below hu, below_and hbb2 (Nat.le_refl _) hu⟩)
    have bX : Below w2.heap.size w2 w2 := Below.refl _ _
    have oX : Own w2 5 (Value.slice (some ⟨we.heap.size, 0, none⟩) 0 0) (bc (seaS m i)) := by rw [HS.out]; exact of.below hb2f
    have fX := hfz
    obtain ⟨t1, t2, t3, t4⟩ := HAT.out w2 bX
    have v1X : ((Value.slice (some ⟨we.heap.size, 0, none⟩) 0 0) : Value).oneCell' = true := own1 oX
    have honX : ∀ x ∈ mc { m with sig := seaS m i } { s with s := (Value.slice (some ⟨we.heap.size, 0, none⟩) 0 0) }, x.oneCell' = true := fun x hx => by
      have h2 : x = (Value.slice (some ⟨we.heap.size, 0, none⟩) 0 0) ∨ x ∈ mc m s := by
        simp only [mc, List.mem_cons, List.not_mem_nil, or_false] at hx ⊢
        grind
      rcases h2 with rfl | h2
      · exact v1X
      · exact hone0 x h2
    go_wp2_with (first
      | (refine wl_store rfl _ _ _ rfl (w.heap.size + 1) (mc { m with sig := seaS m i } { s with s := (Value.slice (some ⟨we.heap.size, 0, none⟩) 0 0) }) rfl rfl _ _ t2y rfl (by kernel_rfl) honX ?_; intro z3 rz3 hg3)
      | (refine wl_load rfl _ _ rfl b5 rfl _ _ t3y _ Tryz.underlying32 rfl (by kernel_rfl) ?_)
      | (refine wl_set rfl _ _ _ rfl b5 17 _ rfl rfl _ _ t3z (show 17 < 23 by decide) (by kernel_rfl) v1X ?_; intro z2 ry2 hg2; have t3y : Row z2 b5 32 (mc { m with sig := seaS m i } { s with s := (Value.slice (some ⟨we.heap.size, 0, none⟩) 0 0) }) := ry2.out; have t2y := t2z.grown hg2 (fun h => by injection h with h; exact hne1 h.symm))
      | (go_at_call 32; refine (HON.out w2 (below_and hb12 (Nat.le_refl _) bX)).mono ?_; rintro e z1 ⟨rfl, y1⟩; have t3z := t3.below y1; have t2z := t2.below y1)
      | (refine wl_load rfl _ _ rfl w.heap.size rfl _ _ t1 _ Tryz.underlying32 rfl (by kernel_rfl) ?_))
    have BU : Below w.heap.size w w2 := below_and B2 (Nat.le_refl _) bX
    have BZ := below_and BU (Nat.le_refl _) y1
    have hb5w : w.heap.size ≤ b5 := by have := hbb.size; omega
    have BZ2 := BZ.trans (grown_below hg2 BZ.size (fun k hk => by cases hk; exact hb5w))
    have BZ3 := BZ2.trans (grown_below hg3 BZ2.size (fun k hk => by cases hk; omega))
    have ozX : Own z1 5 (Value.slice (some ⟨we.heap.size, 0, none⟩) 0 0) (bc (seaS m i)) := oX.below y1
    have oz2 := ozX.grown hg2 (fun k hk => by cases hk; exact own_row_nS t3z ozX (by decide))
    have oz3 := oz2.grown hg3 (fun k hk => by cases hk; exact own_row_nS t2y oz2 (by decide))
    refine bodyPost_ret (v := .agg (mc { m with sig := seaS m i } { s with s := (Value.slice (some ⟨we.heap.size, 0, none⟩) 0 0) }).toArray) (results_cell_row rfl _ _ (w.heap.size + 1) _ _ (0, 0) _ (by rfl) rz3.out Tryz.underlying32 rfl (by kernel_rfl)) rfl ?_
    rw [HW.out]
    have hq := hs.below BZ3
    exact ⟨{ s with s := (Value.slice (some ⟨we.heap.size, 0, none⟩) 0 0) }, rfl, ⟨hq.o, hq.g, hq.o', hq.g', hq.d, ⟨oz3.rd (seaS_byt m i), fun _ _ _ => trivial⟩, hq.c, hq.v, hq.n, hq.p, hq.l⟩, BZ3⟩
  have HSS := (show Hid (seaS m i = signL (repL i) (sL (domS m)) [seaB m]) by show _ = _; unfold seaS; rw [if_pos h0])
  rw [h0] at hen
  have HEn := (show Hid (∀ u s', SOk Any u (wsM m []) s' → Calls Tryz.prog 33 #[.agg (mc (wsM m []) s').toArray] u fun e w' => ∃ v', e = .returned (.tuple #[v', .int .i64 0]) ∧ Rd w' v' (seaB m) ∧ Below u.heap.size u w') from hen)
  clear h0 hen
  go_enter Tryz.func10, Tryz.ntmps10
  go_upto_region 1 with fail
  rw [← hw1]
  clear hw1
  go_upto_region 2 with (first
    | (refine wl_load rfl _ _ rfl w.heap.size rfl _ _ r1 _ Tryz.underlying32 rfl (by kernel_rfl) ?_)
    | (go_at_call 31; refine (HBa.out w1 (Below.refl _ _)).mono ?_; rintro e wb ⟨sb, C, rfl, hsb, hbb⟩; have honb := hsb.any.one; have rnb := Row.new wb 32 (mc zeroM sv0))
    | (refine wl_store rfl _ _ _ rfl wb.heap.size (mc (wsM m []) sb) rfl rfl _ _ rnb rfl (by kernel_rfl) honb ?_; intro wc rc hgc))
  have r5c := rc.out
  have hbc : Below wb.heap.size wb wc := (below_alloc wb (.cells (mc zeroM sv0).toArray 32)).trans (grown_below hgc (by simp) (fun k hk => by cases hk; exact Nat.le_refl _))
  obtain ⟨b5, hb5⟩ : ∃ b5, b5 = wb.heap.size := ⟨_, rfl⟩
  rw [← hb5] at r5c ⊢
  have hb5g : wb.heap.size ≤ b5 := by omega
  have hb1c := below_and hbb (Nat.le_refl _) hbc
  have r1c := r1.below hb1c
  have hne0 : w.heap.size ≠ b5 := by have := hbb.size; omega
  have hne1 : w.heap.size + 1 ≠ b5 := by have := hbb.size; omega
  clear hb5
  go_upto_region 3 with (first
    | (refine wl_load rfl _ _ rfl w.heap.size rfl _ _ r1c _ Tryz.underlying32 rfl (by kernel_rfl) ?_)
    | (go_at_call 32; refine (HON.out wc hb1c).mono ?_; rintro e wd ⟨rfl, hbd⟩))
  have hb1d := below_and hb1c (Nat.le_refl _) hbd
  have hbbd := below_and hbc (Nat.le_refl _) hbd
  have r1d := r1.below hb1d
  have r5d := r5c.below hbd
  go_upto_region 5 with (first
    | (refine wl_load rfl _ _ rfl w.heap.size rfl _ _ r1d _ Tryz.underlying32 rfl (by kernel_rfl) ?_)
    | (refine wl_store rfl _ _ _ rfl b5 (mc m s) rfl rfl _ _ r5d rfl (by kernel_rfl) hone0 ?_; intro we re hge))
  have r5e : Row we b5 32 (mc m s) := re.out
  have hbde : Below wb.heap.size wb we := hbbd.trans (grown_below hge hbbd.size (fun k hk => by cases hk; omega))
  have hb1e : Below w1.heap.size w1 we := hbb.trans (hbde.mono hbb.size)
  have r1e := r1.below hb1e
  have rr1e := rr1.below hb1e
  clear rc hgc hbc r5c hb1c r1c hbd hb1d hbbd r1d r5d re hge rnb
  obtain ⟨wf, hwf⟩ : ∃ wf, wf = we.alloc (.cells #[] 5) := ⟨_, rfl⟩
  have of := own_zero we 5
  rw [← hwf] at of
  have hbf : Below we.heap.size we wf := by rw [hwf]; exact below_alloc _ _
  have hfz : Fr wb.heap.size (Value.slice (some ⟨we.heap.size, 0, none⟩) 0 0) := fr_at _ _ _ _ hbde.size
  have r1f := r1e.below hbf
  have hb1f := below_and hb1e (Nat.le_refl _) hbf
  go_upto_region 6 with fail
  rw [← hwf]
  clear hwf
  go_upto_region 8 with (first
    | (refine wl_load rfl _ _ rfl w.heap.size rfl _ _ r1f _ Tryz.underlying32 rfl (by kernel_rfl) ?_)
    | (go_at_call 31; refine (HBa.out wf hb1f).mono ?_; rintro e wg ⟨sg, C2, rfl, hsg, hbg⟩)
    | (go_at_call 33; refine (HEn.out wg sg hsg.any).mono ?_; rintro e w2 ⟨sv, rfl, R2, hb2⟩))
  have hb2f := below_and hbg (Nat.le_refl _) hb2
  have hbe2 := below_and hbf (Nat.le_refl _) hb2f
  have hbb2 := below_and hbde (Nat.le_refl _) hbe2
  have hb12 := below_and hb1e (Nat.le_refl _) hbe2
  have B2 := below_and B1 (Nat.le_refl _) hb12
  have hs2 := hs.below B2
  have r2 := r1.below hb12
  have rr2 := rr1.below hb12
  have r52 := r5e.below hbe2
  have HAT := (show Hid (∀ u, Below w2.heap.size w2 u → Row u w.heap.size 32 (mc m s) ∧ Row u (w.heap.size + 1) 32 (mc zeroM sv0) ∧ Row u b5 32 (mc m s) ∧ Below wb.heap.size wb u) from fun u hu => ⟨r2.below hu, rr2.below hu, r52.below hu, below_and hbb2 (Nat.le_refl _) hu⟩)
  have hdw : Below w2.heap.size w2 w2.drew := ⟨rfl, rfl, rfl, Nat.le_refl _, fun _ _ => rfl⟩
  obtain ⟨av, cv, rfl, hcv⟩ := R2.form
  obtain ⟨nv, hnv⟩ : ∃ nv, nv = (seaB m).length := ⟨_, rfl⟩
  rw [← hnv] at R2
  rw [← hnv]
  have HR := (show Hid (∀ u, Below w2.heap.size w2 u → Calls Tryz.prog 35 #[.int .i64 i] u fun e w' => e = .returned (.int .i64 (repL i)) ∧ Below u.heap.size u w') from fun u _ => (refReplica_any u i).mono fun e w' h => ⟨h.1, h.2 ▸ Below.refl _ _⟩)
  have HD := (show Hid (∀ u, Below w2.heap.size w2 u → Calls Tryz.prog 36 #[.agg (mc m s).toArray] u fun e w' => e = .returned (.string (domS m)) ∧ Below u.heap.size u w') from fun u hu => refDomain_any Any u m s (hs2.below hu))
  have RDL := (show Hid (∀ u, Below w2.heap.size w2 u → Rdl (u.alloc (.cells #[.slice av nv cv] 24)) (.slice (some ⟨u.heap.size, 0, none⟩) 1 1) [seaB m]) from fun u hu => rdlS_one u (.slice av nv cv) _ (R2.below hu))
  have HT := (show Hid (tot [seaB m] ≤ 4000000) by show _ ≤ _; have := seaB_len m; simp only [tot]; omega)
  have HG := (show Hid (∀ u, Below w2.heap.size w2 u → u.rangeAt w.heap.size 0 (mc m s)) from fun u hu j x hx => by rw [Nat.zero_add]; exact (r2.below hu).cell hx)
  clear r2 rr2 hs2 R2 r52 hcv hnv
  try go_simp
  refine wp_region_held_drew (S := fun u => Below w2.heap.size w2 u) (by kernel_rfl) hdw (fun hHeld => ?_)
  clear hHeld
  refine wpAnyH_take (i := 0) (v := .int .i64 i) rfl (by kernel_rfl) (by kernel_rfl) (by kernel_rfl) (fun _ _ _ h => h) (Or.inl ⟨by rfl, fun u hSu => by go_simp⟩) hdw ?_
  simp only [Act.put, List.setIfInBounds_toArray, List.set_cons_zero, List.set_cons_succ]
  refine wpAnyH_take (i := 4) (v := (.slice av nv cv)) rfl (by kernel_rfl) (by kernel_rfl) (by kernel_rfl) (fun _ _ _ h => h) (Or.inl ⟨by rfl, fun u hSu => by go_simp⟩) hdw ?_
  simp only [Act.put, List.setIfInBounds_toArray, List.set_cons_zero, List.set_cons_succ]
  refine wpAnyH_take (i := 2) (v := .agg (mc m s).toArray) rfl (by kernel_rfl) (by kernel_rfl) (by kernel_rfl) (fun _ _ _ h => h) (yieldsIf_load_mid (by rfl) _ _ rfl w.heap.size 0 rfl (mc m s) _ HG.out Tryz.underlying32 rfl (by kernel_rfl)) hdw ?_
  simp only [Act.put, List.setIfInBounds_toArray, List.set_cons_zero, List.set_cons_succ]
  refine wpAnyH_ready (rs := [1, 5]) (by kernel_rfl) (by simp) ?_
  refine AllReadyH.cons (o := _) rfl (fun K hK => ?_) ?_
  · go_simp
    refine ((HR).out w2.drew hdw).mono ?_
    rintro e u1 ⟨rfl, c1⟩
    have b1 := below_and hdw (Nat.le_refl _) c1
    try go_simp
    refine hK.out _ _ b1 (fun hHeld => ?_)
    clear hK K hHeld
    refine wpAnyH_ready (rs := [3, 5]) (by kernel_rfl) (by simp) ?_
    refine AllReadyH.cons (o := _) rfl (fun K hK => ?_) ?_
    · go_simp
      refine ((HD).out u1 b1).mono ?_
      rintro e u2 ⟨rfl, c2⟩
      have b2 := below_and b1 (Nat.le_refl _) c2
      try go_simp
      refine hK.out _ _ b2 (fun hHeld => ?_)
      clear hK K hHeld
      refine wpAnyH_ready (rs := [5]) (by kernel_rfl) (by simp) ?_
      refine AllReadyH.cons (o := _) rfl (fun K hK => ?_) AllReadyH.nil
      go_simp
      have c3 := below_alloc u2 (.cells #[.slice av nv cv] 24)
      have b3 := below_and b2 (Nat.le_refl _) c3
      have q3 := RDL.out u2 b2
      refine hK.out _ _ b3 (fun hHeld => ?_)
      clear hK K hHeld
      refine wpAnyH_ready (rs := [6]) (by kernel_rfl) (by simp) ?_
      refine AllReadyH.cons (o := _) rfl (fun K hK => ?_) AllReadyH.nil
      go_simp
      refine (refSign_any _ (repL i) (domS m) _ [seaB m] q3 (domS_size m) HT.out).mono ?_
      rintro e u9 ⟨v9, rfl, o9, f9, c9⟩
      have b9 := below_and b3 (Nat.le_refl _) c9
      have F9 := f9.mono b3.size
      try go_simp
      refine hK.out _ _ b9 (fun hHeld => ?_)
      clear hK K hHeld
      refine wpAnyH_ready (rs := [7]) (by kernel_rfl) (by simp) ?_
      refine AllReadyH.cons (o := _) rfl (fun K hK => ?_) AllReadyH.nil
      go_simp
      refine hK.out _ _ b9 (fun hHeld => ?_)
      clear hK K hHeld
      refine wpAnyH_done (by kernel_rfl) ?_ _
      have bX := b9
      have oX : Own u9 5 v9 (bc (seaS m i)) := by rw [HSS.out]; exact o9
      have fX : Fr wb.heap.size v9 := F9.mono hbb2.size
      obtain ⟨t1, t2, t3, t4⟩ := HAT.out u9 bX
      have v1X : (v9 : Value).oneCell' = true := own1 oX
      have honX : ∀ x ∈ mc { m with sig := seaS m i } { s with s := v9 }, x.oneCell' = true := fun x hx => by
        have h2 : x = v9 ∨ x ∈ mc m s := by
          simp only [mc, List.mem_cons, List.not_mem_nil, or_false] at hx ⊢
          grind
        rcases h2 with rfl | h2
        · exact v1X
        · exact hone0 x h2
      go_wp2_with (first
        | (refine wl_store rfl _ _ _ rfl (w.heap.size + 1) (mc { m with sig := seaS m i } { s with s := v9 }) rfl rfl _ _ t2y rfl (by kernel_rfl) honX ?_; intro z3 rz3 hg3)
        | (refine wl_load rfl _ _ rfl b5 rfl _ _ t3y _ Tryz.underlying32 rfl (by kernel_rfl) ?_)
        | (refine wl_set rfl _ _ _ rfl b5 17 _ rfl rfl _ _ t3z (show 17 < 23 by decide) (by kernel_rfl) v1X ?_; intro z2 ry2 hg2; have t3y : Row z2 b5 32 (mc { m with sig := seaS m i } { s with s := v9 }) := ry2.out; have t2y := t2z.grown hg2 (fun h => by injection h with h; exact hne1 h.symm))
        | (go_at_call 32; refine (HON.out u9 (below_and hb12 (Nat.le_refl _) bX)).mono ?_; rintro e z1 ⟨rfl, y1⟩; have t3z := t3.below y1; have t2z := t2.below y1)
        | (refine wl_load rfl _ _ rfl w.heap.size rfl _ _ t1 _ Tryz.underlying32 rfl (by kernel_rfl) ?_))
      have BU : Below w.heap.size w u9 := below_and B2 (Nat.le_refl _) bX
      have BZ := below_and BU (Nat.le_refl _) y1
      have hb5w : w.heap.size ≤ b5 := by have := hbb.size; omega
      have BZ2 := BZ.trans (grown_below hg2 BZ.size (fun k hk => by cases hk; exact hb5w))
      have BZ3 := BZ2.trans (grown_below hg3 BZ2.size (fun k hk => by cases hk; omega))
      have ozX : Own z1 5 v9 (bc (seaS m i)) := oX.below y1
      have oz2 := ozX.grown hg2 (fun k hk => by cases hk; exact own_row_nS t3z ozX (by decide))
      have oz3 := oz2.grown hg3 (fun k hk => by cases hk; exact own_row_nS t2y oz2 (by decide))
      refine bodyPost_ret (v := .agg (mc { m with sig := seaS m i } { s with s := v9 }).toArray) (results_cell_row rfl _ _ (w.heap.size + 1) _ _ (0, 0) _ (by rfl) rz3.out Tryz.underlying32 rfl (by kernel_rfl)) rfl ?_
      rw [HW.out]
      have hq := hs.below BZ3
      exact ⟨{ s with s := v9 }, rfl, ⟨hq.o, hq.g, hq.o', hq.g', hq.d, ⟨oz3.rd (seaS_byt m i), fun _ _ _ => trivial⟩, hq.c, hq.v, hq.n, hq.p, hq.l⟩, BZ3⟩
    refine AllReadyH.cons (o := _) rfl (fun K hK => ?_) AllReadyH.nil
    go_simp
    have c2 := below_alloc u1 (.cells #[.slice av nv cv] 24)
    have b2 := below_and b1 (Nat.le_refl _) c2
    have q2 := RDL.out u1 b1
    refine hK.out _ _ b2 (fun hHeld => ?_)
    clear hK K hHeld
    refine wpAnyH_ready (rs := [3]) (by kernel_rfl) (by simp) ?_
    refine AllReadyH.cons (o := _) rfl (fun K hK => ?_) AllReadyH.nil
    go_simp
    refine ((HD).out (u1.alloc (.cells #[.slice av nv cv] 24)) b2).mono ?_
    rintro e u3 ⟨rfl, c3⟩
    have b3 := below_and b2 (Nat.le_refl _) c3
    have q3 := q2.below c3
    try go_simp
    refine hK.out _ _ b3 (fun hHeld => ?_)
    clear hK K hHeld
    refine wpAnyH_ready (rs := [6]) (by kernel_rfl) (by simp) ?_
    refine AllReadyH.cons (o := _) rfl (fun K hK => ?_) AllReadyH.nil
    go_simp
    refine (refSign_any _ (repL i) (domS m) _ [seaB m] q3 (domS_size m) HT.out).mono ?_
    rintro e u9 ⟨v9, rfl, o9, f9, c9⟩
    have b9 := below_and b3 (Nat.le_refl _) c9
    have F9 := f9.mono b3.size
    try go_simp
    refine hK.out _ _ b9 (fun hHeld => ?_)
    clear hK K hHeld
    refine wpAnyH_ready (rs := [7]) (by kernel_rfl) (by simp) ?_
    refine AllReadyH.cons (o := _) rfl (fun K hK => ?_) AllReadyH.nil
    go_simp
    refine hK.out _ _ b9 (fun hHeld => ?_)
    clear hK K hHeld
    refine wpAnyH_done (by kernel_rfl) ?_ _
    have bX := b9
    have oX : Own u9 5 v9 (bc (seaS m i)) := by rw [HSS.out]; exact o9
    have fX : Fr wb.heap.size v9 := F9.mono hbb2.size
    obtain ⟨t1, t2, t3, t4⟩ := HAT.out u9 bX
    have v1X : (v9 : Value).oneCell' = true := own1 oX
    have honX : ∀ x ∈ mc { m with sig := seaS m i } { s with s := v9 }, x.oneCell' = true := fun x hx => by
      have h2 : x = v9 ∨ x ∈ mc m s := by
        simp only [mc, List.mem_cons, List.not_mem_nil, or_false] at hx ⊢
        grind
      rcases h2 with rfl | h2
      · exact v1X
      · exact hone0 x h2
    go_wp2_with (first
      | (refine wl_store rfl _ _ _ rfl (w.heap.size + 1) (mc { m with sig := seaS m i } { s with s := v9 }) rfl rfl _ _ t2y rfl (by kernel_rfl) honX ?_; intro z3 rz3 hg3)
      | (refine wl_load rfl _ _ rfl b5 rfl _ _ t3y _ Tryz.underlying32 rfl (by kernel_rfl) ?_)
      | (refine wl_set rfl _ _ _ rfl b5 17 _ rfl rfl _ _ t3z (show 17 < 23 by decide) (by kernel_rfl) v1X ?_; intro z2 ry2 hg2; have t3y : Row z2 b5 32 (mc { m with sig := seaS m i } { s with s := v9 }) := ry2.out; have t2y := t2z.grown hg2 (fun h => by injection h with h; exact hne1 h.symm))
      | (go_at_call 32; refine (HON.out u9 (below_and hb12 (Nat.le_refl _) bX)).mono ?_; rintro e z1 ⟨rfl, y1⟩; have t3z := t3.below y1; have t2z := t2.below y1)
      | (refine wl_load rfl _ _ rfl w.heap.size rfl _ _ t1 _ Tryz.underlying32 rfl (by kernel_rfl) ?_))
    have BU : Below w.heap.size w u9 := below_and B2 (Nat.le_refl _) bX
    have BZ := below_and BU (Nat.le_refl _) y1
    have hb5w : w.heap.size ≤ b5 := by have := hbb.size; omega
    have BZ2 := BZ.trans (grown_below hg2 BZ.size (fun k hk => by cases hk; exact hb5w))
    have BZ3 := BZ2.trans (grown_below hg3 BZ2.size (fun k hk => by cases hk; omega))
    have ozX : Own z1 5 v9 (bc (seaS m i)) := oX.below y1
    have oz2 := ozX.grown hg2 (fun k hk => by cases hk; exact own_row_nS t3z ozX (by decide))
    have oz3 := oz2.grown hg3 (fun k hk => by cases hk; exact own_row_nS t2y oz2 (by decide))
    refine bodyPost_ret (v := .agg (mc { m with sig := seaS m i } { s with s := v9 }).toArray) (results_cell_row rfl _ _ (w.heap.size + 1) _ _ (0, 0) _ (by rfl) rz3.out Tryz.underlying32 rfl (by kernel_rfl)) rfl ?_
    rw [HW.out]
    have hq := hs.below BZ3
    exact ⟨{ s with s := v9 }, rfl, ⟨hq.o, hq.g, hq.o', hq.g', hq.d, ⟨oz3.rd (seaS_byt m i), fun _ _ _ => trivial⟩, hq.c, hq.v, hq.n, hq.p, hq.l⟩, BZ3⟩
  refine AllReadyH.cons (o := _) rfl (fun K hK => ?_) AllReadyH.nil
  go_simp
  have c1 := below_alloc w2.drew (.cells #[.slice av nv cv] 24)
  have b1 := below_and hdw (Nat.le_refl _) c1
  have q1 := RDL.out w2.drew hdw
  refine hK.out _ _ b1 (fun hHeld => ?_)
  clear hK K hHeld
  refine wpAnyH_ready (rs := [1]) (by kernel_rfl) (by simp) ?_
  refine AllReadyH.cons (o := _) rfl (fun K hK => ?_) AllReadyH.nil
  go_simp
  refine ((HR).out (w2.drew.alloc (.cells #[.slice av nv cv] 24)) b1).mono ?_
  rintro e u2 ⟨rfl, c2⟩
  have b2 := below_and b1 (Nat.le_refl _) c2
  have q2 := q1.below c2
  try go_simp
  refine hK.out _ _ b2 (fun hHeld => ?_)
  clear hK K hHeld
  refine wpAnyH_ready (rs := [3]) (by kernel_rfl) (by simp) ?_
  refine AllReadyH.cons (o := _) rfl (fun K hK => ?_) AllReadyH.nil
  go_simp
  refine ((HD).out u2 b2).mono ?_
  rintro e u3 ⟨rfl, c3⟩
  have b3 := below_and b2 (Nat.le_refl _) c3
  have q3 := q2.below c3
  try go_simp
  refine hK.out _ _ b3 (fun hHeld => ?_)
  clear hK K hHeld
  refine wpAnyH_ready (rs := [6]) (by kernel_rfl) (by simp) ?_
  refine AllReadyH.cons (o := _) rfl (fun K hK => ?_) AllReadyH.nil
  go_simp
  refine (refSign_any _ (repL i) (domS m) _ [seaB m] q3 (domS_size m) HT.out).mono ?_
  rintro e u9 ⟨v9, rfl, o9, f9, c9⟩
  have b9 := below_and b3 (Nat.le_refl _) c9
  have F9 := f9.mono b3.size
  try go_simp
  refine hK.out _ _ b9 (fun hHeld => ?_)
  clear hK K hHeld
  refine wpAnyH_ready (rs := [7]) (by kernel_rfl) (by simp) ?_
  refine AllReadyH.cons (o := _) rfl (fun K hK => ?_) AllReadyH.nil
  go_simp
  refine hK.out _ _ b9 (fun hHeld => ?_)
  clear hK K hHeld
  refine wpAnyH_done (by kernel_rfl) ?_ _
  have bX := b9
  have oX : Own u9 5 v9 (bc (seaS m i)) := by rw [HSS.out]; exact o9
  have fX : Fr wb.heap.size v9 := F9.mono hbb2.size
  obtain ⟨t1, t2, t3, t4⟩ := HAT.out u9 bX
  have v1X : (v9 : Value).oneCell' = true := own1 oX
  have honX : ∀ x ∈ mc { m with sig := seaS m i } { s with s := v9 }, x.oneCell' = true := fun x hx => by
    have h2 : x = v9 ∨ x ∈ mc m s := by
      simp only [mc, List.mem_cons, List.not_mem_nil, or_false] at hx ⊢
      grind
    rcases h2 with rfl | h2
    · exact v1X
    · exact hone0 x h2
  go_wp2_with (first
    | (refine wl_store rfl _ _ _ rfl (w.heap.size + 1) (mc { m with sig := seaS m i } { s with s := v9 }) rfl rfl _ _ t2y rfl (by kernel_rfl) honX ?_; intro z3 rz3 hg3)
    | (refine wl_load rfl _ _ rfl b5 rfl _ _ t3y _ Tryz.underlying32 rfl (by kernel_rfl) ?_)
    | (refine wl_set rfl _ _ _ rfl b5 17 _ rfl rfl _ _ t3z (show 17 < 23 by decide) (by kernel_rfl) v1X ?_; intro z2 ry2 hg2; have t3y : Row z2 b5 32 (mc { m with sig := seaS m i } { s with s := v9 }) := ry2.out; have t2y := t2z.grown hg2 (fun h => by injection h with h; exact hne1 h.symm))
    | (go_at_call 32; refine (HON.out u9 (below_and hb12 (Nat.le_refl _) bX)).mono ?_; rintro e z1 ⟨rfl, y1⟩; have t3z := t3.below y1; have t2z := t2.below y1)
    | (refine wl_load rfl _ _ rfl w.heap.size rfl _ _ t1 _ Tryz.underlying32 rfl (by kernel_rfl) ?_))
  have BU : Below w.heap.size w u9 := below_and B2 (Nat.le_refl _) bX
  have BZ := below_and BU (Nat.le_refl _) y1
  have hb5w : w.heap.size ≤ b5 := by have := hbb.size; omega
  have BZ2 := BZ.trans (grown_below hg2 BZ.size (fun k hk => by cases hk; exact hb5w))
  have BZ3 := BZ2.trans (grown_below hg3 BZ2.size (fun k hk => by cases hk; omega))
  have ozX : Own z1 5 v9 (bc (seaS m i)) := oX.below y1
  have oz2 := ozX.grown hg2 (fun k hk => by cases hk; exact own_row_nS t3z ozX (by decide))
  have oz3 := oz2.grown hg3 (fun k hk => by cases hk; exact own_row_nS t2y oz2 (by decide))
  refine bodyPost_ret (v := .agg (mc { m with sig := seaS m i } { s with s := v9 }).toArray) (results_cell_row rfl _ _ (w.heap.size + 1) _ _ (0, 0) _ (by rfl) rz3.out Tryz.underlying32 rfl (by kernel_rfl)) rfl ?_
  rw [HW.out]
  have hq := hs.below BZ3
  exact ⟨{ s with s := v9 }, rfl, ⟨hq.o, hq.g, hq.o', hq.g', hq.d, ⟨oz3.rd (seaS_byt m i), fun _ _ _ => trivial⟩, hq.c, hq.v, hq.n, hq.p, hq.l⟩, BZ3⟩
set_option maxRecDepth 10000 in
set_option maxHeartbeats 16000000 in
theorem refSeal_yes (w : World) (m : PMsg) (s : SV) (i : Int) (hs : SOk Any w m s) (hz : szM m) (hb : bM m ≤ 1048576) (ho : oneM m = true) : Calls Tryz.prog 10 #[.agg (mc m s).toArray, .int .i64 i] w fun e w' => ∃ s', e = .returned (.agg (mc (wsM m (seaS m i)) s').toArray) ∧ SOk Any w' (wsM m (seaS m i)) s' ∧ Below w.heap.size w w' := by
  obtain ⟨w1, hw1⟩ : ∃ w1, w1 = (w.alloc (.cells (mc m s).toArray 32)).alloc (.cells #[.int .i64 0, .int .i64 0, .int .i64 0, .int .i64 0, .int .i64 0, .int .i64 0, .int .i64 0, .int .i64 0, .int .i64 0, .int .i64 0, .slice none 0 0, .slice none 0 0, .int .i64 0, .int .i64 0, .slice none 0 0, .slice none 0 0, .slice none 0 0, .slice none 0 0, .slice none 0 0, .slice none 0 0, .slice none 0 0, .slice none 0 0, .slice none 0 0] 32) := ⟨_, rfl⟩
  have r1 : Row w1 w.heap.size 32 (mc m s) := by rw [hw1]; exact rowA (Row.new w _ _) _
  have rr1 : Row w1 (w.heap.size + 1) 32 (mc zeroM sv0) := by
    have h1 : (w.alloc (.cells (mc m s).toArray 32)).heap.size = w.heap.size + 1 := by simp
    rw [hw1, ← h1]
    exact Row.new (w.alloc (.cells (mc m s).toArray 32)) 32 (mc zeroM sv0)
  have B1 : Below w.heap.size w w1 := by rw [hw1]; exact ((Below.refl _ w).alloc (Nat.le_refl _) _).alloc (by simp) _
  have hz2 : w.heap.size + 2 ≤ w1.heap.size := by rw [hw1]; simp
  have HBa := (show Hid (∀ u, Below w1.heap.size w1 u → Calls Tryz.prog 31 #[.agg (mc m s).toArray] u fun e w' => ∃ s' C, e = .returned (.agg (mc (wsM m []) s').toArray) ∧ SOkL u.heap.size C w' (wsM m []) s' ∧ Below u.heap.size u w') from fun u hu => refBare_any u m s (hs.below (below_and B1 (Nat.le_refl _) hu)) hz)
  have HON := (show Hid (∀ u, Below w1.heap.size w1 u → Calls Tryz.prog 32 #[.agg (mc m s).toArray] u fun e w' => e = .returned (.bool (oneM m)) ∧ Below u.heap.size u w') from fun u hu => refOne_any Any u m s (hs.below (below_and B1 (Nat.le_refl _) hu)))
  have hen : ∀ u s', SOk Any u (wsM m []) s' → Calls Tryz.prog 33 #[.agg (mc (wsM m []) s').toArray] u fun e w' => ∃ v', e = .returned (.tuple #[v', .int .i64 (seaE m)]) ∧ Rd w' v' (seaB m) ∧ Below u.heap.size u w' := fun u s' h => refEncode_any u (wsM m []) s' h (bM_ws hb)
  have hone0 := hs.one
  rw [ho] at HON
  obtain ⟨hk, r, hr⟩ := oneM_yes ho
  have HW := (show Hid (wsM m (seaS m i) = { m with reps := [repSig r (seaS m i)] }) by show _ = _; unfold wsM; rw [if_pos ho, hr]; rfl)
  have HWN := (show Hid (wsM m [] = { m with reps := [repSig r []] }) by show _ = _; unfold wsM; rw [if_pos ho, hr]; rfl)
  have HRP := (show Hid ((wsM m []).reps = [repSig r []]) by show _ = _; rw [HWN.out])
  clear ho
  by_cases h0 : seaE m = 0
  case neg =>
    have HS := (show Hid (seaS m i = []) by show _ = _; unfold seaS; rw [if_neg h0])
    obtain ⟨E, hE⟩ : ∃ E, E = seaE m := ⟨_, rfl⟩
    rw [← hE] at hen h0
    have h0' : (E == 0) = false := by simp [h0]
    have HEn := (show Hid (∀ u s', SOk Any u (wsM m []) s' → Calls Tryz.prog 33 #[.agg (mc (wsM m []) s').toArray] u fun e w' => ∃ v', e = .returned (.tuple #[v', .int .i64 E]) ∧ Rd w' v' (seaB m) ∧ Below u.heap.size u w') from hen)
    clear hE hen
    go_enter Tryz.func10, Tryz.ntmps10
    go_upto_region 1 with fail
    rw [← hw1]
    clear hw1
    go_upto_region 2 with (first
      | (refine wl_load rfl _ _ rfl w.heap.size rfl _ _ r1 _ Tryz.underlying32 rfl (by kernel_rfl) ?_)
      | (go_at_call 31; refine (HBa.out w1 (Below.refl _ _)).mono ?_; rintro e wb ⟨sb, C, rfl, hsb, hbb⟩; have honb := hsb.any.one; have rnb := Row.new wb 32 (mc zeroM sv0))
      | (refine wl_store rfl _ _ _ rfl wb.heap.size (mc (wsM m []) sb) rfl rfl _ _ rnb rfl (by kernel_rfl) honb ?_; intro wc rc hgc))
    have r5c := rc.out
    have hbc : Below wb.heap.size wb wc := (below_alloc wb (.cells (mc zeroM sv0).toArray 32)).trans (grown_below hgc (by simp) (fun k hk => by cases hk; exact Nat.le_refl _))
    obtain ⟨b5, hb5⟩ : ∃ b5, b5 = wb.heap.size := ⟨_, rfl⟩
    rw [← hb5] at r5c ⊢
    have hb5g : wb.heap.size ≤ b5 := by omega
    have hb1c := below_and hbb (Nat.le_refl _) hbc
    have r1c := r1.below hb1c
    have hne0 : w.heap.size ≠ b5 := by have := hbb.size; omega
    have hne1 : w.heap.size + 1 ≠ b5 := by have := hbb.size; omega
    clear hb5
    go_upto_region 4 with (first
      | (refine wl_load rfl _ _ rfl w.heap.size rfl _ _ r1c _ Tryz.underlying32 rfl (by kernel_rfl) ?_)
      | (go_at_call 32; refine (HON.out wc hb1c).mono ?_; rintro e wd ⟨rfl, hbd⟩))
    have hb1d := below_and hb1c (Nat.le_refl _) hbd
    have hbbd := below_and hbc (Nat.le_refl _) hbd
    have r1d := r1.below hb1d
    have r5d := r5c.below hbd
    have c17 := r1d.cell (j := 17) rfl
    go_upto_region 5 with (refine wl_set rfl _ _ _ rfl b5 17 _ rfl rfl _ _ r5d (show 17 < 23 by decide) (by kernel_rfl) hs.s.one ?_; intro we re hge)
    have r5e : Row we b5 32 (mc (wsM m []) { sb with s := s.s }) := re.out
    have OUT := (show Hid (∀ x ∈ mc (wsM m []) { sb with s := s.s }, x.oneCell' = true) from fun x hx => by
      have h2 : x = s.s ∨ x ∈ mc (wsM m []) sb := by
        simp only [mc, List.mem_cons, List.not_mem_nil, or_false] at hx ⊢
        grind
      rcases h2 with rfl | h2
      · exact hs.s.one
      · exact honb x h2)
    have hbde : Below wb.heap.size wb we := hbbd.trans (grown_below hge hbbd.size (fun k hk => by cases hk; omega))
    have hb1e : Below w1.heap.size w1 we := hbb.trans (hbde.mono hbb.size)
    have r1e := r1.below hb1e
    have rr1e := rr1.below hb1e
    clear rc hgc hbc r5c hb1c r1c hbd hb1d hbbd r1d r5d re hge rnb
    obtain ⟨wf, hwf⟩ : ∃ wf, wf = we.alloc (.cells #[] 5) := ⟨_, rfl⟩
    have of := own_zero we 5
    rw [← hwf] at of
    have hbf : Below we.heap.size we wf := by rw [hwf]; exact below_alloc _ _
    have hfz : Fr wb.heap.size (Value.slice (some ⟨we.heap.size, 0, none⟩) 0 0) := fr_at _ _ _ _ hbde.size
    have r1f := r1e.below hbf
    have hb1f := below_and hb1e (Nat.le_refl _) hbf
    go_upto_region 6 with fail
    rw [← hwf]
    clear hwf
    go_upto_region 9 with (first
      | (refine wl_load rfl _ _ rfl w.heap.size rfl _ _ r1f _ Tryz.underlying32 rfl (by kernel_rfl) ?_)
      | (go_at_call 31; refine (HBa.out wf hb1f).mono ?_; rintro e wg ⟨sg, C2, rfl, hsg, hbg⟩)
      | (go_at_call 33; refine (HEn.out wg sg hsg.any).mono ?_; rintro e w2 ⟨sv, rfl, R2, hb2⟩))
    have hb2f := below_and hbg (Nat.le_refl _) hb2
    have hbe2 := below_and hbf (Nat.le_refl _) hb2f
    have hbb2 := below_and hbde (Nat.le_refl _) hbe2
    have hb12 := below_and hb1e (Nat.le_refl _) hbe2
    have B2 := below_and B1 (Nat.le_refl _) hb12
    have hs2 := hs.below B2
    have r2 := r1.below hb12
    have rr2 := rr1.below hb12
    have r52 := r5e.below hbe2
    have HAT := (show Hid (∀ u, Below w2.heap.size w2 u → Row u w.heap.size 32 (mc m s) ∧ Row u (w.heap.size + 1) 32 (mc zeroM sv0) ∧ Row u b5 32 (mc (wsM m []) { sb with s := s.s }) ∧ Below wb.heap.size wb u) from fun u hu => ⟨r2.below hu, rr2.below hu, r52.below hu, below_and hbb2 (Nat.le_refl _) hu⟩)
    have bX : Below w2.heap.size w2 w2 := Below.refl _ _
    have oX : Own w2 5 (Value.slice (some ⟨we.heap.size, 0, none⟩) 0 0) (bc (seaS m i)) := by rw [HS.out]; exact of.below hb2f
    have fX := hfz
    obtain ⟨t1, t2, t3, t4⟩ := HAT.out w2 bX
    have hlx := (hsb.below t4).l
    rw [HRP.out] at hlx
    obtain ⟨bl, cap, cur, ev, hc1, hc2, hbl, rlx, hcl, hset⟩ := lb_sig hlx
    have hbll := hlx.lt bl (by rw [ev]; rfl)
    have HSET := (show Hid _ from hset)
    have HEV := (show Hid (sb.l = .slice (some ⟨bl, 0, none⟩) 1 cap) from ev)
    have HBL := (show Hid (C ≤ bl) from hbl)
    clear hlx hset ev hbl
    go_upto_region 10 with (first
      | (refine wl_load rfl _ _ rfl w.heap.size rfl _ _ t1 _ Tryz.underlying32 rfl (by kernel_rfl) ?_)
      | (go_at_call 32; refine (HON.out w2 (below_and hb12 (Nat.le_refl _) bX)).mono ?_; rintro e z1 ⟨rfl, y1⟩))
    have t3z := t3.below y1
    have t2z := t2.below y1
    have rlz := rlx.below y1
    have t4z := below_and t4 (Nat.le_refl _) y1
    rw [show mc (wsM m []) { sb with s := s.s } = mc (wsM m []) { sb with s := s.s, l := .slice (some ⟨bl, 0, none⟩) 1 cap } from by have := HEV.out; simp only [mc, this]] at t3z
    have c22 := t3z.cell (j := 22) rfl
    have honX : ∀ x ∈ mc (wsM m []) { sb with s := s.s, l := .slice (some ⟨bl, 0, none⟩) 1 cap }, x.oneCell' = true := by
      have h := OUT.out
      rwa [show mc (wsM m []) { sb with s := s.s } = mc (wsM m []) { sb with s := s.s, l := .slice (some ⟨bl, 0, none⟩) 1 cap } from by have := HEV.out; simp only [mc, this]] at h
    have v1X : ((Value.slice (some ⟨we.heap.size, 0, none⟩) 0 0) : Value).oneCell' = true := own1 oX
    have hxb : bl ≠ b5 := rlz.apart t3z (by decide)
    have hx1 : bl ≠ w.heap.size + 1 := rlz.apart t2z (by decide)
    go_wp2_with (first
      | (refine wl_store rfl _ _ _ rfl (w.heap.size + 1) (mc (wsM m []) { sb with s := s.s, l := .slice (some ⟨bl, 0, none⟩) 1 cap }) rfl rfl _ _ t2y rfl (by kernel_rfl) honX ?_; intro z3 rz3 hg3)
      | (refine wl_load rfl _ _ rfl b5 rfl _ _ t3y _ Tryz.underlying32 rfl (by kernel_rfl) ?_)
      | (refine wl_set rfl _ _ _ rfl bl 7 _ rfl rfl _ _ rlz hcl (by kernel_rfl) v1X ?_; intro z2 rl2 hg2; have t3y := t3z.grown hg2 (fun h => by injection h with h; exact hxb h); have t2y := t2z.grown hg2 (fun h => by injection h with h; exact hx1 h)))
    have hsz := hsb.below t4z
    have ozX : Own z1 5 (Value.slice (some ⟨we.heap.size, 0, none⟩) 0 0) (bc (seaS m i)) := oX.below y1
    have nvb : ((Value.slice (some ⟨we.heap.size, 0, none⟩) 0 0) : Value).ownBlock ≠ some bl := own_row_nS rlz ozX (by decide)
    have oz2 := ozX.grown hg2 (fun k hk => by cases hk; exact nvb)
    have hCb : C ≤ wb.heap.size := hsb.lt
    have hlz := HSET.out
    have hl1 := (hsb.below t4z).l
    rw [HRP.out] at hl1
    have rtX : RT (fun b => C ≤ b ∧ b ≠ bl) z2 (Value.slice (some ⟨we.heap.size, 0, none⟩) 0 0) (seaS m i) := ⟨oz2.rd (seaS_byt m i), fun _ k hk => ⟨Nat.le_trans hCb (fX k hk), fun e => nvb (by rw [hk, e])⟩⟩
    obtain ⟨bl', cap', cur', ev', _, _, hbl', rl', _, hset'⟩ := lb_sig hl1
    have hbb' : bl' = bl := by have h9 := HEV.out; rw [ev'] at h9; injection h9 with h9; injection h9 with h9; injection h9
    subst hbb'
    have hcc : cur' = cur := by have h8 := rl'; unfold Row at h8; have h9 := rlz; unfold Row at h9; rw [h8] at h9; simp at h9; exact h9
    subst hcc
    have hl2 := hset' z2 (Value.slice (some ⟨we.heap.size, 0, none⟩) 0 0) (seaS m i) rl2.out hg2 rtX
    have hs2' := hsz.rep hg2 hbl' hl2
    have B1z : w1.heap.size ≤ z2.heap.size := Nat.le_trans hbb.size (Nat.le_trans t4z.size hg2.size)
    have hs3 := hs2'.grown hg3 (by omega)
    have BZ : Below w.heap.size w z1 := below_and B1 (Nat.le_refl _) (hbb.trans (t4z.mono hbb.size))
    have BZ2 := BZ.trans (grown_below hg2 BZ.size (fun k hk => by cases hk; have := hsb.le; omega))
    have BZ3 := BZ2.trans (grown_below hg3 BZ2.size (fun k hk => by cases hk; omega))
    refine bodyPost_ret (v := .agg (mc (wsM m []) { sb with s := s.s, l := .slice (some ⟨bl', 0, none⟩) 1 cap }).toArray) (results_cell_row rfl _ _ (w.heap.size + 1) _ _ (0, 0) _ (by rfl) rz3.out Tryz.underlying32 rfl (by kernel_rfl)) rfl ?_
    rw [HW.out]
    have hq : SOk Any z3 { m with reps := [repSig r (seaS m i)] } sb := by have h := hs3.any; rw [HWN.out] at h; exact h
    have hss := hs.s.mv (Mv.below BZ3)
    refine ⟨{ sb with s := s.s }, ?_, ⟨hq.o, hq.g, hq.o', hq.g', hq.d, ?_, hq.c, hq.v, hq.n, hq.p, ?_⟩, BZ3⟩
    · have h9 := HEV.out
      rw [HWN.out]
      simp only [mc, h9]
    · exact hss
    · exact hq.l
  have HSS := (show Hid (seaS m i = signL (repL i) (sL (domS m)) [seaB m]) by show _ = _; unfold seaS; rw [if_pos h0])
  rw [h0] at hen
  have HEn := (show Hid (∀ u s', SOk Any u (wsM m []) s' → Calls Tryz.prog 33 #[.agg (mc (wsM m []) s').toArray] u fun e w' => ∃ v', e = .returned (.tuple #[v', .int .i64 0]) ∧ Rd w' v' (seaB m) ∧ Below u.heap.size u w') from hen)
  clear h0 hen
  go_enter Tryz.func10, Tryz.ntmps10
  go_upto_region 1 with fail
  rw [← hw1]
  clear hw1
  go_upto_region 2 with (first
    | (refine wl_load rfl _ _ rfl w.heap.size rfl _ _ r1 _ Tryz.underlying32 rfl (by kernel_rfl) ?_)
    | (go_at_call 31; refine (HBa.out w1 (Below.refl _ _)).mono ?_; rintro e wb ⟨sb, C, rfl, hsb, hbb⟩; have honb := hsb.any.one; have rnb := Row.new wb 32 (mc zeroM sv0))
    | (refine wl_store rfl _ _ _ rfl wb.heap.size (mc (wsM m []) sb) rfl rfl _ _ rnb rfl (by kernel_rfl) honb ?_; intro wc rc hgc))
  have r5c := rc.out
  have hbc : Below wb.heap.size wb wc := (below_alloc wb (.cells (mc zeroM sv0).toArray 32)).trans (grown_below hgc (by simp) (fun k hk => by cases hk; exact Nat.le_refl _))
  obtain ⟨b5, hb5⟩ : ∃ b5, b5 = wb.heap.size := ⟨_, rfl⟩
  rw [← hb5] at r5c ⊢
  have hb5g : wb.heap.size ≤ b5 := by omega
  have hb1c := below_and hbb (Nat.le_refl _) hbc
  have r1c := r1.below hb1c
  have hne0 : w.heap.size ≠ b5 := by have := hbb.size; omega
  have hne1 : w.heap.size + 1 ≠ b5 := by have := hbb.size; omega
  clear hb5
  go_upto_region 4 with (first
    | (refine wl_load rfl _ _ rfl w.heap.size rfl _ _ r1c _ Tryz.underlying32 rfl (by kernel_rfl) ?_)
    | (go_at_call 32; refine (HON.out wc hb1c).mono ?_; rintro e wd ⟨rfl, hbd⟩))
  have hb1d := below_and hb1c (Nat.le_refl _) hbd
  have hbbd := below_and hbc (Nat.le_refl _) hbd
  have r1d := r1.below hb1d
  have r5d := r5c.below hbd
  have c17 := r1d.cell (j := 17) rfl
  go_upto_region 5 with (refine wl_set rfl _ _ _ rfl b5 17 _ rfl rfl _ _ r5d (show 17 < 23 by decide) (by kernel_rfl) hs.s.one ?_; intro we re hge)
  have r5e : Row we b5 32 (mc (wsM m []) { sb with s := s.s }) := re.out
  have OUT := (show Hid (∀ x ∈ mc (wsM m []) { sb with s := s.s }, x.oneCell' = true) from fun x hx => by
    have h2 : x = s.s ∨ x ∈ mc (wsM m []) sb := by
      simp only [mc, List.mem_cons, List.not_mem_nil, or_false] at hx ⊢
      grind
    rcases h2 with rfl | h2
    · exact hs.s.one
    · exact honb x h2)
  have hbde : Below wb.heap.size wb we := hbbd.trans (grown_below hge hbbd.size (fun k hk => by cases hk; omega))
  have hb1e : Below w1.heap.size w1 we := hbb.trans (hbde.mono hbb.size)
  have r1e := r1.below hb1e
  have rr1e := rr1.below hb1e
  clear rc hgc hbc r5c hb1c r1c hbd hb1d hbbd r1d r5d re hge rnb
  obtain ⟨wf, hwf⟩ : ∃ wf, wf = we.alloc (.cells #[] 5) := ⟨_, rfl⟩
  have of := own_zero we 5
  rw [← hwf] at of
  have hbf : Below we.heap.size we wf := by rw [hwf]; exact below_alloc _ _
  have hfz : Fr wb.heap.size (Value.slice (some ⟨we.heap.size, 0, none⟩) 0 0) := fr_at _ _ _ _ hbde.size
  have r1f := r1e.below hbf
  have hb1f := below_and hb1e (Nat.le_refl _) hbf
  go_upto_region 6 with fail
  rw [← hwf]
  clear hwf
  go_upto_region 8 with (first
    | (refine wl_load rfl _ _ rfl w.heap.size rfl _ _ r1f _ Tryz.underlying32 rfl (by kernel_rfl) ?_)
    | (go_at_call 31; refine (HBa.out wf hb1f).mono ?_; rintro e wg ⟨sg, C2, rfl, hsg, hbg⟩)
    | (go_at_call 33; refine (HEn.out wg sg hsg.any).mono ?_; rintro e w2 ⟨sv, rfl, R2, hb2⟩))
  have hb2f := below_and hbg (Nat.le_refl _) hb2
  have hbe2 := below_and hbf (Nat.le_refl _) hb2f
  have hbb2 := below_and hbde (Nat.le_refl _) hbe2
  have hb12 := below_and hb1e (Nat.le_refl _) hbe2
  have B2 := below_and B1 (Nat.le_refl _) hb12
  have hs2 := hs.below B2
  have r2 := r1.below hb12
  have rr2 := rr1.below hb12
  have r52 := r5e.below hbe2
  have HAT := (show Hid (∀ u, Below w2.heap.size w2 u → Row u w.heap.size 32 (mc m s) ∧ Row u (w.heap.size + 1) 32 (mc zeroM sv0) ∧ Row u b5 32 (mc (wsM m []) { sb with s := s.s }) ∧ Below wb.heap.size wb u) from fun u hu => ⟨r2.below hu, rr2.below hu, r52.below hu, below_and hbb2 (Nat.le_refl _) hu⟩)
  have hdw : Below w2.heap.size w2 w2.drew := ⟨rfl, rfl, rfl, Nat.le_refl _, fun _ _ => rfl⟩
  obtain ⟨av, cv, rfl, hcv⟩ := R2.form
  obtain ⟨nv, hnv⟩ : ∃ nv, nv = (seaB m).length := ⟨_, rfl⟩
  rw [← hnv] at R2
  rw [← hnv]
  have HR := (show Hid (∀ u, Below w2.heap.size w2 u → Calls Tryz.prog 35 #[.int .i64 i] u fun e w' => e = .returned (.int .i64 (repL i)) ∧ Below u.heap.size u w') from fun u _ => (refReplica_any u i).mono fun e w' h => ⟨h.1, h.2 ▸ Below.refl _ _⟩)
  have HD := (show Hid (∀ u, Below w2.heap.size w2 u → Calls Tryz.prog 36 #[.agg (mc m s).toArray] u fun e w' => e = .returned (.string (domS m)) ∧ Below u.heap.size u w') from fun u hu => refDomain_any Any u m s (hs2.below hu))
  have RDL := (show Hid (∀ u, Below w2.heap.size w2 u → Rdl (u.alloc (.cells #[.slice av nv cv] 24)) (.slice (some ⟨u.heap.size, 0, none⟩) 1 1) [seaB m]) from fun u hu => rdlS_one u (.slice av nv cv) _ (R2.below hu))
  have HT := (show Hid (tot [seaB m] ≤ 4000000) by show _ ≤ _; have := seaB_len m; simp only [tot]; omega)
  have HG := (show Hid (∀ u, Below w2.heap.size w2 u → u.rangeAt w.heap.size 0 (mc m s)) from fun u hu j x hx => by rw [Nat.zero_add]; exact (r2.below hu).cell hx)
  clear r2 rr2 hs2 R2 r52 hcv hnv
  try go_simp
  refine wp_region_held_drew (S := fun u => Below w2.heap.size w2 u) (by kernel_rfl) hdw (fun hHeld => ?_)
  clear hHeld
  refine wpAnyH_take (i := 0) (v := .int .i64 i) rfl (by kernel_rfl) (by kernel_rfl) (by kernel_rfl) (fun _ _ _ h => h) (Or.inl ⟨by rfl, fun u hSu => by go_simp⟩) hdw ?_
  simp only [Act.put, List.setIfInBounds_toArray, List.set_cons_zero, List.set_cons_succ]
  refine wpAnyH_take (i := 4) (v := (.slice av nv cv)) rfl (by kernel_rfl) (by kernel_rfl) (by kernel_rfl) (fun _ _ _ h => h) (Or.inl ⟨by rfl, fun u hSu => by go_simp⟩) hdw ?_
  simp only [Act.put, List.setIfInBounds_toArray, List.set_cons_zero, List.set_cons_succ]
  refine wpAnyH_take (i := 2) (v := .agg (mc m s).toArray) rfl (by kernel_rfl) (by kernel_rfl) (by kernel_rfl) (fun _ _ _ h => h) (yieldsIf_load_mid (by rfl) _ _ rfl w.heap.size 0 rfl (mc m s) _ HG.out Tryz.underlying32 rfl (by kernel_rfl)) hdw ?_
  simp only [Act.put, List.setIfInBounds_toArray, List.set_cons_zero, List.set_cons_succ]
  refine wpAnyH_ready (rs := [1, 5]) (by kernel_rfl) (by simp) ?_
  refine AllReadyH.cons (o := _) rfl (fun K hK => ?_) ?_
  · go_simp
    refine ((HR).out w2.drew hdw).mono ?_
    rintro e u1 ⟨rfl, c1⟩
    have b1 := below_and hdw (Nat.le_refl _) c1
    try go_simp
    refine hK.out _ _ b1 (fun hHeld => ?_)
    clear hK K hHeld
    refine wpAnyH_ready (rs := [3, 5]) (by kernel_rfl) (by simp) ?_
    refine AllReadyH.cons (o := _) rfl (fun K hK => ?_) ?_
    · go_simp
      refine ((HD).out u1 b1).mono ?_
      rintro e u2 ⟨rfl, c2⟩
      have b2 := below_and b1 (Nat.le_refl _) c2
      try go_simp
      refine hK.out _ _ b2 (fun hHeld => ?_)
      clear hK K hHeld
      refine wpAnyH_ready (rs := [5]) (by kernel_rfl) (by simp) ?_
      refine AllReadyH.cons (o := _) rfl (fun K hK => ?_) AllReadyH.nil
      go_simp
      have c3 := below_alloc u2 (.cells #[.slice av nv cv] 24)
      have b3 := below_and b2 (Nat.le_refl _) c3
      have q3 := RDL.out u2 b2
      refine hK.out _ _ b3 (fun hHeld => ?_)
      clear hK K hHeld
      refine wpAnyH_ready (rs := [6]) (by kernel_rfl) (by simp) ?_
      refine AllReadyH.cons (o := _) rfl (fun K hK => ?_) AllReadyH.nil
      go_simp
      refine (refSign_any _ (repL i) (domS m) _ [seaB m] q3 (domS_size m) HT.out).mono ?_
      rintro e u9 ⟨v9, rfl, o9, f9, c9⟩
      have b9 := below_and b3 (Nat.le_refl _) c9
      have F9 := f9.mono b3.size
      try go_simp
      refine hK.out _ _ b9 (fun hHeld => ?_)
      clear hK K hHeld
      refine wpAnyH_ready (rs := [7]) (by kernel_rfl) (by simp) ?_
      refine AllReadyH.cons (o := _) rfl (fun K hK => ?_) AllReadyH.nil
      go_simp
      refine hK.out _ _ b9 (fun hHeld => ?_)
      clear hK K hHeld
      refine wpAnyH_done (by kernel_rfl) ?_ _
      have bX := b9
      have oX : Own u9 5 v9 (bc (seaS m i)) := by rw [HSS.out]; exact o9
      have fX : Fr wb.heap.size v9 := F9.mono hbb2.size
      obtain ⟨t1, t2, t3, t4⟩ := HAT.out u9 bX
      have hlx := (hsb.below t4).l
      rw [HRP.out] at hlx
      obtain ⟨bl, cap, cur, ev, hc1, hc2, hbl, rlx, hcl, hset⟩ := lb_sig hlx
      have hbll := hlx.lt bl (by rw [ev]; rfl)
      have HSET := (show Hid _ from hset)
      have HEV := (show Hid (sb.l = .slice (some ⟨bl, 0, none⟩) 1 cap) from ev)
      have HBL := (show Hid (C ≤ bl) from hbl)
      clear hlx hset ev hbl
      go_upto_region 10 with (first
        | (refine wl_load rfl _ _ rfl w.heap.size rfl _ _ t1 _ Tryz.underlying32 rfl (by kernel_rfl) ?_)
        | (go_at_call 32; refine (HON.out u9 (below_and hb12 (Nat.le_refl _) bX)).mono ?_; rintro e z1 ⟨rfl, y1⟩))
      have t3z := t3.below y1
      have t2z := t2.below y1
      have rlz := rlx.below y1
      have t4z := below_and t4 (Nat.le_refl _) y1
      rw [show mc (wsM m []) { sb with s := s.s } = mc (wsM m []) { sb with s := s.s, l := .slice (some ⟨bl, 0, none⟩) 1 cap } from by have := HEV.out; simp only [mc, this]] at t3z
      have c22 := t3z.cell (j := 22) rfl
      have honX : ∀ x ∈ mc (wsM m []) { sb with s := s.s, l := .slice (some ⟨bl, 0, none⟩) 1 cap }, x.oneCell' = true := by
        have h := OUT.out
        rwa [show mc (wsM m []) { sb with s := s.s } = mc (wsM m []) { sb with s := s.s, l := .slice (some ⟨bl, 0, none⟩) 1 cap } from by have := HEV.out; simp only [mc, this]] at h
      have v1X : (v9 : Value).oneCell' = true := own1 oX
      have hxb : bl ≠ b5 := rlz.apart t3z (by decide)
      have hx1 : bl ≠ w.heap.size + 1 := rlz.apart t2z (by decide)
      go_wp2_with (first
        | (refine wl_store rfl _ _ _ rfl (w.heap.size + 1) (mc (wsM m []) { sb with s := s.s, l := .slice (some ⟨bl, 0, none⟩) 1 cap }) rfl rfl _ _ t2y rfl (by kernel_rfl) honX ?_; intro z3 rz3 hg3)
        | (refine wl_load rfl _ _ rfl b5 rfl _ _ t3y _ Tryz.underlying32 rfl (by kernel_rfl) ?_)
        | (refine wl_set rfl _ _ _ rfl bl 7 _ rfl rfl _ _ rlz hcl (by kernel_rfl) v1X ?_; intro z2 rl2 hg2; have t3y := t3z.grown hg2 (fun h => by injection h with h; exact hxb h); have t2y := t2z.grown hg2 (fun h => by injection h with h; exact hx1 h)))
      have hsz := hsb.below t4z
      have ozX : Own z1 5 v9 (bc (seaS m i)) := oX.below y1
      have nvb : (v9 : Value).ownBlock ≠ some bl := own_row_nS rlz ozX (by decide)
      have oz2 := ozX.grown hg2 (fun k hk => by cases hk; exact nvb)
      have hCb : C ≤ wb.heap.size := hsb.lt
      have hlz := HSET.out
      have hl1 := (hsb.below t4z).l
      rw [HRP.out] at hl1
      have rtX : RT (fun b => C ≤ b ∧ b ≠ bl) z2 v9 (seaS m i) := ⟨oz2.rd (seaS_byt m i), fun _ k hk => ⟨Nat.le_trans hCb (fX k hk), fun e => nvb (by rw [hk, e])⟩⟩
      obtain ⟨bl', cap', cur', ev', _, _, hbl', rl', _, hset'⟩ := lb_sig hl1
      have hbb' : bl' = bl := by have h9 := HEV.out; rw [ev'] at h9; injection h9 with h9; injection h9 with h9; injection h9
      subst hbb'
      have hcc : cur' = cur := by have h8 := rl'; unfold Row at h8; have h9 := rlz; unfold Row at h9; rw [h8] at h9; simp at h9; exact h9
      subst hcc
      have hl2 := hset' z2 v9 (seaS m i) rl2.out hg2 rtX
      have hs2' := hsz.rep hg2 hbl' hl2
      have B1z : w1.heap.size ≤ z2.heap.size := Nat.le_trans hbb.size (Nat.le_trans t4z.size hg2.size)
      have hs3 := hs2'.grown hg3 (by omega)
      have BZ : Below w.heap.size w z1 := below_and B1 (Nat.le_refl _) (hbb.trans (t4z.mono hbb.size))
      have BZ2 := BZ.trans (grown_below hg2 BZ.size (fun k hk => by cases hk; have := hsb.le; omega))
      have BZ3 := BZ2.trans (grown_below hg3 BZ2.size (fun k hk => by cases hk; omega))
      refine bodyPost_ret (v := .agg (mc (wsM m []) { sb with s := s.s, l := .slice (some ⟨bl', 0, none⟩) 1 cap }).toArray) (results_cell_row rfl _ _ (w.heap.size + 1) _ _ (0, 0) _ (by rfl) rz3.out Tryz.underlying32 rfl (by kernel_rfl)) rfl ?_
      rw [HW.out]
      have hq : SOk Any z3 { m with reps := [repSig r (seaS m i)] } sb := by have h := hs3.any; rw [HWN.out] at h; exact h
      have hss := hs.s.mv (Mv.below BZ3)
      refine ⟨{ sb with s := s.s }, ?_, ⟨hq.o, hq.g, hq.o', hq.g', hq.d, ?_, hq.c, hq.v, hq.n, hq.p, ?_⟩, BZ3⟩
      · have h9 := HEV.out
        rw [HWN.out]
        simp only [mc, h9]
      · exact hss
      · exact hq.l
    refine AllReadyH.cons (o := _) rfl (fun K hK => ?_) AllReadyH.nil
    go_simp
    have c2 := below_alloc u1 (.cells #[.slice av nv cv] 24)
    have b2 := below_and b1 (Nat.le_refl _) c2
    have q2 := RDL.out u1 b1
    refine hK.out _ _ b2 (fun hHeld => ?_)
    clear hK K hHeld
    refine wpAnyH_ready (rs := [3]) (by kernel_rfl) (by simp) ?_
    refine AllReadyH.cons (o := _) rfl (fun K hK => ?_) AllReadyH.nil
    go_simp
    refine ((HD).out (u1.alloc (.cells #[.slice av nv cv] 24)) b2).mono ?_
    rintro e u3 ⟨rfl, c3⟩
    have b3 := below_and b2 (Nat.le_refl _) c3
    have q3 := q2.below c3
    try go_simp
    refine hK.out _ _ b3 (fun hHeld => ?_)
    clear hK K hHeld
    refine wpAnyH_ready (rs := [6]) (by kernel_rfl) (by simp) ?_
    refine AllReadyH.cons (o := _) rfl (fun K hK => ?_) AllReadyH.nil
    go_simp
    refine (refSign_any _ (repL i) (domS m) _ [seaB m] q3 (domS_size m) HT.out).mono ?_
    rintro e u9 ⟨v9, rfl, o9, f9, c9⟩
    have b9 := below_and b3 (Nat.le_refl _) c9
    have F9 := f9.mono b3.size
    try go_simp
    refine hK.out _ _ b9 (fun hHeld => ?_)
    clear hK K hHeld
    refine wpAnyH_ready (rs := [7]) (by kernel_rfl) (by simp) ?_
    refine AllReadyH.cons (o := _) rfl (fun K hK => ?_) AllReadyH.nil
    go_simp
    refine hK.out _ _ b9 (fun hHeld => ?_)
    clear hK K hHeld
    refine wpAnyH_done (by kernel_rfl) ?_ _
    have bX := b9
    have oX : Own u9 5 v9 (bc (seaS m i)) := by rw [HSS.out]; exact o9
    have fX : Fr wb.heap.size v9 := F9.mono hbb2.size
    obtain ⟨t1, t2, t3, t4⟩ := HAT.out u9 bX
    have hlx := (hsb.below t4).l
    rw [HRP.out] at hlx
    obtain ⟨bl, cap, cur, ev, hc1, hc2, hbl, rlx, hcl, hset⟩ := lb_sig hlx
    have hbll := hlx.lt bl (by rw [ev]; rfl)
    have HSET := (show Hid _ from hset)
    have HEV := (show Hid (sb.l = .slice (some ⟨bl, 0, none⟩) 1 cap) from ev)
    have HBL := (show Hid (C ≤ bl) from hbl)
    clear hlx hset ev hbl
    go_upto_region 10 with (first
      | (refine wl_load rfl _ _ rfl w.heap.size rfl _ _ t1 _ Tryz.underlying32 rfl (by kernel_rfl) ?_)
      | (go_at_call 32; refine (HON.out u9 (below_and hb12 (Nat.le_refl _) bX)).mono ?_; rintro e z1 ⟨rfl, y1⟩))
    have t3z := t3.below y1
    have t2z := t2.below y1
    have rlz := rlx.below y1
    have t4z := below_and t4 (Nat.le_refl _) y1
    rw [show mc (wsM m []) { sb with s := s.s } = mc (wsM m []) { sb with s := s.s, l := .slice (some ⟨bl, 0, none⟩) 1 cap } from by have := HEV.out; simp only [mc, this]] at t3z
    have c22 := t3z.cell (j := 22) rfl
    have honX : ∀ x ∈ mc (wsM m []) { sb with s := s.s, l := .slice (some ⟨bl, 0, none⟩) 1 cap }, x.oneCell' = true := by
      have h := OUT.out
      rwa [show mc (wsM m []) { sb with s := s.s } = mc (wsM m []) { sb with s := s.s, l := .slice (some ⟨bl, 0, none⟩) 1 cap } from by have := HEV.out; simp only [mc, this]] at h
    have v1X : (v9 : Value).oneCell' = true := own1 oX
    have hxb : bl ≠ b5 := rlz.apart t3z (by decide)
    have hx1 : bl ≠ w.heap.size + 1 := rlz.apart t2z (by decide)
    go_wp2_with (first
      | (refine wl_store rfl _ _ _ rfl (w.heap.size + 1) (mc (wsM m []) { sb with s := s.s, l := .slice (some ⟨bl, 0, none⟩) 1 cap }) rfl rfl _ _ t2y rfl (by kernel_rfl) honX ?_; intro z3 rz3 hg3)
      | (refine wl_load rfl _ _ rfl b5 rfl _ _ t3y _ Tryz.underlying32 rfl (by kernel_rfl) ?_)
      | (refine wl_set rfl _ _ _ rfl bl 7 _ rfl rfl _ _ rlz hcl (by kernel_rfl) v1X ?_; intro z2 rl2 hg2; have t3y := t3z.grown hg2 (fun h => by injection h with h; exact hxb h); have t2y := t2z.grown hg2 (fun h => by injection h with h; exact hx1 h)))
    have hsz := hsb.below t4z
    have ozX : Own z1 5 v9 (bc (seaS m i)) := oX.below y1
    have nvb : (v9 : Value).ownBlock ≠ some bl := own_row_nS rlz ozX (by decide)
    have oz2 := ozX.grown hg2 (fun k hk => by cases hk; exact nvb)
    have hCb : C ≤ wb.heap.size := hsb.lt
    have hlz := HSET.out
    have hl1 := (hsb.below t4z).l
    rw [HRP.out] at hl1
    have rtX : RT (fun b => C ≤ b ∧ b ≠ bl) z2 v9 (seaS m i) := ⟨oz2.rd (seaS_byt m i), fun _ k hk => ⟨Nat.le_trans hCb (fX k hk), fun e => nvb (by rw [hk, e])⟩⟩
    obtain ⟨bl', cap', cur', ev', _, _, hbl', rl', _, hset'⟩ := lb_sig hl1
    have hbb' : bl' = bl := by have h9 := HEV.out; rw [ev'] at h9; injection h9 with h9; injection h9 with h9; injection h9
    subst hbb'
    have hcc : cur' = cur := by have h8 := rl'; unfold Row at h8; have h9 := rlz; unfold Row at h9; rw [h8] at h9; simp at h9; exact h9
    subst hcc
    have hl2 := hset' z2 v9 (seaS m i) rl2.out hg2 rtX
    have hs2' := hsz.rep hg2 hbl' hl2
    have B1z : w1.heap.size ≤ z2.heap.size := Nat.le_trans hbb.size (Nat.le_trans t4z.size hg2.size)
    have hs3 := hs2'.grown hg3 (by omega)
    have BZ : Below w.heap.size w z1 := below_and B1 (Nat.le_refl _) (hbb.trans (t4z.mono hbb.size))
    have BZ2 := BZ.trans (grown_below hg2 BZ.size (fun k hk => by cases hk; have := hsb.le; omega))
    have BZ3 := BZ2.trans (grown_below hg3 BZ2.size (fun k hk => by cases hk; omega))
    refine bodyPost_ret (v := .agg (mc (wsM m []) { sb with s := s.s, l := .slice (some ⟨bl', 0, none⟩) 1 cap }).toArray) (results_cell_row rfl _ _ (w.heap.size + 1) _ _ (0, 0) _ (by rfl) rz3.out Tryz.underlying32 rfl (by kernel_rfl)) rfl ?_
    rw [HW.out]
    have hq : SOk Any z3 { m with reps := [repSig r (seaS m i)] } sb := by have h := hs3.any; rw [HWN.out] at h; exact h
    have hss := hs.s.mv (Mv.below BZ3)
    refine ⟨{ sb with s := s.s }, ?_, ⟨hq.o, hq.g, hq.o', hq.g', hq.d, ?_, hq.c, hq.v, hq.n, hq.p, ?_⟩, BZ3⟩
    · have h9 := HEV.out
      rw [HWN.out]
      simp only [mc, h9]
    · exact hss
    · exact hq.l
  refine AllReadyH.cons (o := _) rfl (fun K hK => ?_) AllReadyH.nil
  go_simp
  have c1 := below_alloc w2.drew (.cells #[.slice av nv cv] 24)
  have b1 := below_and hdw (Nat.le_refl _) c1
  have q1 := RDL.out w2.drew hdw
  refine hK.out _ _ b1 (fun hHeld => ?_)
  clear hK K hHeld
  refine wpAnyH_ready (rs := [1]) (by kernel_rfl) (by simp) ?_
  refine AllReadyH.cons (o := _) rfl (fun K hK => ?_) AllReadyH.nil
  go_simp
  refine ((HR).out (w2.drew.alloc (.cells #[.slice av nv cv] 24)) b1).mono ?_
  rintro e u2 ⟨rfl, c2⟩
  have b2 := below_and b1 (Nat.le_refl _) c2
  have q2 := q1.below c2
  try go_simp
  refine hK.out _ _ b2 (fun hHeld => ?_)
  clear hK K hHeld
  refine wpAnyH_ready (rs := [3]) (by kernel_rfl) (by simp) ?_
  refine AllReadyH.cons (o := _) rfl (fun K hK => ?_) AllReadyH.nil
  go_simp
  refine ((HD).out u2 b2).mono ?_
  rintro e u3 ⟨rfl, c3⟩
  have b3 := below_and b2 (Nat.le_refl _) c3
  have q3 := q2.below c3
  try go_simp
  refine hK.out _ _ b3 (fun hHeld => ?_)
  clear hK K hHeld
  refine wpAnyH_ready (rs := [6]) (by kernel_rfl) (by simp) ?_
  refine AllReadyH.cons (o := _) rfl (fun K hK => ?_) AllReadyH.nil
  go_simp
  refine (refSign_any _ (repL i) (domS m) _ [seaB m] q3 (domS_size m) HT.out).mono ?_
  rintro e u9 ⟨v9, rfl, o9, f9, c9⟩
  have b9 := below_and b3 (Nat.le_refl _) c9
  have F9 := f9.mono b3.size
  try go_simp
  refine hK.out _ _ b9 (fun hHeld => ?_)
  clear hK K hHeld
  refine wpAnyH_ready (rs := [7]) (by kernel_rfl) (by simp) ?_
  refine AllReadyH.cons (o := _) rfl (fun K hK => ?_) AllReadyH.nil
  go_simp
  refine hK.out _ _ b9 (fun hHeld => ?_)
  clear hK K hHeld
  refine wpAnyH_done (by kernel_rfl) ?_ _
  have bX := b9
  have oX : Own u9 5 v9 (bc (seaS m i)) := by rw [HSS.out]; exact o9
  have fX : Fr wb.heap.size v9 := F9.mono hbb2.size
  obtain ⟨t1, t2, t3, t4⟩ := HAT.out u9 bX
  have hlx := (hsb.below t4).l
  rw [HRP.out] at hlx
  obtain ⟨bl, cap, cur, ev, hc1, hc2, hbl, rlx, hcl, hset⟩ := lb_sig hlx
  have hbll := hlx.lt bl (by rw [ev]; rfl)
  have HSET := (show Hid _ from hset)
  have HEV := (show Hid (sb.l = .slice (some ⟨bl, 0, none⟩) 1 cap) from ev)
  have HBL := (show Hid (C ≤ bl) from hbl)
  clear hlx hset ev hbl
  go_upto_region 10 with (first
    | (refine wl_load rfl _ _ rfl w.heap.size rfl _ _ t1 _ Tryz.underlying32 rfl (by kernel_rfl) ?_)
    | (go_at_call 32; refine (HON.out u9 (below_and hb12 (Nat.le_refl _) bX)).mono ?_; rintro e z1 ⟨rfl, y1⟩))
  have t3z := t3.below y1
  have t2z := t2.below y1
  have rlz := rlx.below y1
  have t4z := below_and t4 (Nat.le_refl _) y1
  rw [show mc (wsM m []) { sb with s := s.s } = mc (wsM m []) { sb with s := s.s, l := .slice (some ⟨bl, 0, none⟩) 1 cap } from by have := HEV.out; simp only [mc, this]] at t3z
  have c22 := t3z.cell (j := 22) rfl
  have honX : ∀ x ∈ mc (wsM m []) { sb with s := s.s, l := .slice (some ⟨bl, 0, none⟩) 1 cap }, x.oneCell' = true := by
    have h := OUT.out
    rwa [show mc (wsM m []) { sb with s := s.s } = mc (wsM m []) { sb with s := s.s, l := .slice (some ⟨bl, 0, none⟩) 1 cap } from by have := HEV.out; simp only [mc, this]] at h
  have v1X : (v9 : Value).oneCell' = true := own1 oX
  have hxb : bl ≠ b5 := rlz.apart t3z (by decide)
  have hx1 : bl ≠ w.heap.size + 1 := rlz.apart t2z (by decide)
  go_wp2_with (first
    | (refine wl_store rfl _ _ _ rfl (w.heap.size + 1) (mc (wsM m []) { sb with s := s.s, l := .slice (some ⟨bl, 0, none⟩) 1 cap }) rfl rfl _ _ t2y rfl (by kernel_rfl) honX ?_; intro z3 rz3 hg3)
    | (refine wl_load rfl _ _ rfl b5 rfl _ _ t3y _ Tryz.underlying32 rfl (by kernel_rfl) ?_)
    | (refine wl_set rfl _ _ _ rfl bl 7 _ rfl rfl _ _ rlz hcl (by kernel_rfl) v1X ?_; intro z2 rl2 hg2; have t3y := t3z.grown hg2 (fun h => by injection h with h; exact hxb h); have t2y := t2z.grown hg2 (fun h => by injection h with h; exact hx1 h)))
  have hsz := hsb.below t4z
  have ozX : Own z1 5 v9 (bc (seaS m i)) := oX.below y1
  have nvb : (v9 : Value).ownBlock ≠ some bl := own_row_nS rlz ozX (by decide)
  have oz2 := ozX.grown hg2 (fun k hk => by cases hk; exact nvb)
  have hCb : C ≤ wb.heap.size := hsb.lt
  have hlz := HSET.out
  have hl1 := (hsb.below t4z).l
  rw [HRP.out] at hl1
  have rtX : RT (fun b => C ≤ b ∧ b ≠ bl) z2 v9 (seaS m i) := ⟨oz2.rd (seaS_byt m i), fun _ k hk => ⟨Nat.le_trans hCb (fX k hk), fun e => nvb (by rw [hk, e])⟩⟩
  obtain ⟨bl', cap', cur', ev', _, _, hbl', rl', _, hset'⟩ := lb_sig hl1
  have hbb' : bl' = bl := by have h9 := HEV.out; rw [ev'] at h9; injection h9 with h9; injection h9 with h9; injection h9
  subst hbb'
  have hcc : cur' = cur := by have h8 := rl'; unfold Row at h8; have h9 := rlz; unfold Row at h9; rw [h8] at h9; simp at h9; exact h9
  subst hcc
  have hl2 := hset' z2 v9 (seaS m i) rl2.out hg2 rtX
  have hs2' := hsz.rep hg2 hbl' hl2
  have B1z : w1.heap.size ≤ z2.heap.size := Nat.le_trans hbb.size (Nat.le_trans t4z.size hg2.size)
  have hs3 := hs2'.grown hg3 (by omega)
  have BZ : Below w.heap.size w z1 := below_and B1 (Nat.le_refl _) (hbb.trans (t4z.mono hbb.size))
  have BZ2 := BZ.trans (grown_below hg2 BZ.size (fun k hk => by cases hk; have := hsb.le; omega))
  have BZ3 := BZ2.trans (grown_below hg3 BZ2.size (fun k hk => by cases hk; omega))
  refine bodyPost_ret (v := .agg (mc (wsM m []) { sb with s := s.s, l := .slice (some ⟨bl', 0, none⟩) 1 cap }).toArray) (results_cell_row rfl _ _ (w.heap.size + 1) _ _ (0, 0) _ (by rfl) rz3.out Tryz.underlying32 rfl (by kernel_rfl)) rfl ?_
  rw [HW.out]
  have hq : SOk Any z3 { m with reps := [repSig r (seaS m i)] } sb := by have h := hs3.any; rw [HWN.out] at h; exact h
  have hss := hs.s.mv (Mv.below BZ3)
  refine ⟨{ sb with s := s.s }, ?_, ⟨hq.o, hq.g, hq.o', hq.g', hq.d, ?_, hq.c, hq.v, hq.n, hq.p, ?_⟩, BZ3⟩
  · have h9 := HEV.out
    rw [HWN.out]
    simp only [mc, h9]
  · exact hss
  · exact hq.l
theorem refSeal_any (w : World) (m : PMsg) (s : SV) (i : Int) (hs : SOk Any w m s) (hz : szM m) (hb : bM m ≤ 1048576) : Calls Tryz.prog 10 #[.agg (mc m s).toArray, .int .i64 i] w fun e w' => ∃ s', e = .returned (.agg (mc (wsM m (seaS m i)) s').toArray) ∧ SOk Any w' (wsM m (seaS m i)) s' ∧ Below w.heap.size w w' := by
  cases ho : oneM m with
  | false => exact refSeal_no w m s i hs hz hb ho
  | true => exact refSeal_yes w m s i hs hz hb ho
end Go.Proofs.YtijmecplechhgaaGreatDoor
end

section
set_option linter.unusedVariables false
set_option linter.unusedSimpArgs false
namespace Go.Proofs.YtijmecplechhgaaGreatDoor
open Go.RowKit Oct

/-- Is it the signer's message? -/
def seaQ (m : PMsg) (i : Int) : Bool := if seaE m = 0 then verL (repL i) (sgM m) (sL (domS m)) [seaB m] else false
set_option maxRecDepth 10000 in
set_option maxHeartbeats 4000000 in
theorem sealed_any (w : World) (m : PMsg) (s : SV) (i : Int) (hs : SOk Any w m s) (hT : Tab w) : Calls Tryz.prog 8 #[.agg (mc m s).toArray, .int .i64 i] w fun e w' => e = .returned (.bool (seaQ m i)) ∧ Below w.heap.size w w' := by
  obtain ⟨w1, hw1, r1, B1⟩ := boxM w m s
  have hC := sealBody_any w1 m s (hs.below B1)
  unfold seaQ
  by_cases h0 : seaE m = 0
  case neg =>
    rw [if_neg h0]
    obtain ⟨E, hE⟩ : ∃ E, E = seaE m := ⟨_, rfl⟩
    rw [← hE] at hC h0
    clear hE
    go_enter Tryz.func8, Tryz.ntmps8
    go_upto_region 1 with fail
    rw [← hw1]
    clear hw1
    go_wp2_with (first
      | (refine wl_load rfl _ _ rfl w.heap.size rfl _ _ r1 _ Tryz.underlying32 rfl (by kernel_rfl) ?_)
      | (go_at_call 19; refine hC.mono ?_; rintro e w2 ⟨sv, rfl, o2, y2, f2, hb2⟩))
    have B2 := below_and B1 (Nat.le_refl _) hb2
    have hdw : Below w2.heap.size w2 w2.drew := ⟨rfl, rfl, rfl, Nat.le_refl _, fun _ _ => rfl⟩
    clear hC r1 hs o2 y2 f2 hb2 B1
    refine wp_region_held_drew (S := fun u => Below w2.heap.size w2 u) (by kernel_rfl) hdw (fun hHeld => ?_)
    clear hHeld
    refine wpAnyH_take (i := 0) (v := .int .i64 E) rfl (by kernel_rfl) (by kernel_rfl) (by kernel_rfl) (fun _ _ _ h => h) (Or.inl ⟨by kernel_rfl, fun u hSu => by go_simp⟩) hdw ?_
    simp only [Act.put, List.setIfInBounds_toArray, List.set_cons_zero, List.set_cons_succ]
    refine wpAnyH_take (i := 1) (v := .bool false) rfl (by kernel_rfl) (by kernel_rfl) (by kernel_rfl) (fun _ _ _ h => h) (Or.inl ⟨by kernel_rfl, fun u hSu => by go_simp⟩) hdw ?_
    simp only [Act.put, List.setIfInBounds_toArray, List.set_cons_zero, List.set_cons_succ]
    refine wpAnyH_take (i := 2) (v := .bool false) rfl (by kernel_rfl) (by kernel_rfl) (by kernel_rfl) (fun _ _ _ h => h) (Or.inl ⟨by kernel_rfl, fun u hSu => by go_simp⟩) hdw ?_
    simp only [Act.put, List.setIfInBounds_toArray, List.set_cons_zero, List.set_cons_succ]
    refine wpAnyH_take (i := 3) (v := undef) rfl (by kernel_rfl) (by kernel_rfl) (by kernel_rfl) (fun _ _ _ h => h) (Or.inr ⟨by kernel_rfl, rfl⟩) hdw ?_
    simp only [Act.put, List.setIfInBounds_toArray, List.set_cons_zero, List.set_cons_succ]
    refine wpAnyH_take (i := 4) (v := undef) rfl (by kernel_rfl) (by kernel_rfl) (by kernel_rfl) (fun _ _ _ h => h) (Or.inr ⟨by kernel_rfl, rfl⟩) hdw ?_
    simp only [Act.put, List.setIfInBounds_toArray, List.set_cons_zero, List.set_cons_succ]
    refine wpAnyH_take (i := 5) (v := undef) rfl (by kernel_rfl) (by kernel_rfl) (by kernel_rfl) (fun _ _ _ h => h) (Or.inr ⟨by kernel_rfl, rfl⟩) hdw ?_
    simp only [Act.put, List.setIfInBounds_toArray, List.set_cons_zero, List.set_cons_succ]
    refine wpAnyH_take (i := 6) (v := undef) rfl (by kernel_rfl) (by kernel_rfl) (by kernel_rfl) (fun _ _ _ h => h) (Or.inr ⟨by kernel_rfl, rfl⟩) hdw ?_
    simp only [Act.put, List.setIfInBounds_toArray, List.set_cons_zero, List.set_cons_succ]
    refine wpAnyH_take (i := 7) (v := undef) rfl (by kernel_rfl) (by kernel_rfl) (by kernel_rfl) (fun _ _ _ h => h) (Or.inr ⟨by kernel_rfl, rfl⟩) hdw ?_
    simp only [Act.put, List.setIfInBounds_toArray, List.set_cons_zero, List.set_cons_succ]
    refine wpAnyH_take (i := 8) (v := undef) rfl (by kernel_rfl) (by kernel_rfl) (by kernel_rfl) (fun _ _ _ h => h) (Or.inr ⟨by kernel_rfl, rfl⟩) hdw ?_
    simp only [Act.put, List.setIfInBounds_toArray, List.set_cons_zero, List.set_cons_succ]
    refine wpAnyH_take (i := 9) (v := undef) rfl (by kernel_rfl) (by kernel_rfl) (by kernel_rfl) (fun _ _ _ h => h) (Or.inr ⟨by kernel_rfl, rfl⟩) hdw ?_
    simp only [Act.put, List.setIfInBounds_toArray, List.set_cons_zero, List.set_cons_succ]
    refine wpAnyH_take (i := 10) (v := undef) rfl (by kernel_rfl) (by kernel_rfl) (by kernel_rfl) (fun _ _ _ h => h) (Or.inr ⟨by kernel_rfl, rfl⟩) hdw ?_
    simp only [Act.put, List.setIfInBounds_toArray, List.set_cons_zero, List.set_cons_succ]
    refine wpAnyH_take (i := 11) (v := undef) rfl (by kernel_rfl) (by kernel_rfl) (by kernel_rfl) (fun _ _ _ h => h) (Or.inr ⟨by kernel_rfl, rfl⟩) hdw ?_
    simp only [Act.put, List.setIfInBounds_toArray, List.set_cons_zero, List.set_cons_succ]
    refine wpAnyH_ready (rs := [12]) (by kernel_rfl) (by simp) ?_
    refine AllReadyH.cons (o := _) rfl (fun K hK => ?_) AllReadyH.nil
    go_simp
    refine hK.out _ _ hdw (fun hHeld => ?_)
    clear hK K hHeld
    refine wpAnyH_ready (rs := [13]) (by kernel_rfl) (by simp) ?_
    refine AllReadyH.cons (o := _) rfl (fun K hK => ?_) AllReadyH.nil
    go_simp
    refine hK.out _ _ hdw (fun hHeld => ?_)
    clear hK K hHeld
    refine wpAnyH_done (by kernel_rfl) ?_ _
    go_wp2_with fail
    go_ret
    exact ⟨rfl, below_and B2 (Nat.le_refl _) hdw⟩
  rw [if_pos h0]
  rw [h0] at hC
  clear h0
  go_enter Tryz.func8, Tryz.ntmps8
  go_upto_region 1 with fail
  rw [← hw1]
  clear hw1
  go_wp2_with (first
    | (refine wl_load rfl _ _ rfl w.heap.size rfl _ _ r1 _ Tryz.underlying32 rfl (by kernel_rfl) ?_)
    | (go_at_call 19; refine hC.mono ?_; rintro e w2 ⟨sv, rfl, o2, y2, f2, hb2⟩))
  have B2 := below_and B1 (Nat.le_refl _) hb2
  have r2 := r1.below hb2
  have hs2 := hs.below B2
  have hdw : Below w2.heap.size w2 w2.drew := ⟨rfl, rfl, rfl, Nat.le_refl _, fun _ _ => rfl⟩
  have R2 := o2.rd y2
  obtain ⟨av, cv, rfl, hcv⟩ := R2.form
  obtain ⟨nv, hnv⟩ : ∃ nv, nv = (seaB m).length := ⟨_, rfl⟩
  rw [← hnv] at R2 o2
  rw [← hnv]
  have HR := (show Hid (∀ u, Below w2.heap.size w2 u → Calls Tryz.prog 21 #[.int .i64 i] u fun e w' => e = .returned (.int .i64 (repL i)) ∧ Below u.heap.size u w') from fun u _ => (replica_any u i).mono fun e w' h => ⟨h.1, h.2 ▸ Below.refl _ _⟩)
  have HD := (show Hid (∀ u, Below w2.heap.size w2 u → Calls Tryz.prog 22 #[.agg (mc m s).toArray] u fun e w' => e = .returned (.string (domS m)) ∧ Below u.heap.size u w') from fun u hu => sealDomain_any Any u m s (hs2.below hu))
  have HS := (show Hid (∀ u, Below w2.heap.size w2 u → Calls Tryz.prog 27 #[.agg (mc m s).toArray] u fun e w' => ∃ v, e = .returned v ∧ Rd w' v (sgM m) ∧ Below u.heap.size u w') from fun u hu => (sigOf_any Any u m s (hs2.below hu)).mono fun e w' h => by obtain ⟨v, h1, h2, h3⟩ := h; exact ⟨v, h1, h2.1, h3⟩)
  have RDL := (show Hid (∀ u, Below w2.heap.size w2 u → Rdl (u.alloc (.cells #[.slice av nv cv] 24)) (.slice (some ⟨u.heap.size, 0, none⟩) 1 1) [seaB m]) from fun u hu => rdlS_one u (.slice av nv cv) _ (R2.below hu))
  have HT := (show Hid (tot [seaB m] ≤ 4000000) by show _ ≤ _; have := seaB_len m; simp only [tot]; omega)
  have HG := (show Hid (∀ u, Below w2.heap.size w2 u → u.rangeAt w.heap.size 0 (mc m s)) from fun u hu j x hx => by rw [Nat.zero_add]; exact (r2.below hu).cell hx)
  have TT := (show Hid (∀ u, Below w2.heap.size w2 u → Tab u) from fun u hu => hT.below (below_and B2 (Nat.le_refl _) hu))
  clear hC r1 r2 hs2 hs R2 o2 y2 f2 hb2 B1 hcv hnv hT
  refine wp_region_held_drew (S := fun u => Below w2.heap.size w2 u) (by kernel_rfl) hdw (fun hHeld => ?_)
  clear hHeld
  refine wpAnyH_take (i := 0) (v := .int .i64 0) rfl (by kernel_rfl) (by kernel_rfl) (by kernel_rfl) (fun _ _ _ h => h) (Or.inl ⟨by kernel_rfl, fun u hSu => by go_simp⟩) hdw ?_
  simp only [Act.put, List.setIfInBounds_toArray, List.set_cons_zero, List.set_cons_succ]
  refine wpAnyH_take (i := 1) (v := .bool true) rfl (by kernel_rfl) (by kernel_rfl) (by kernel_rfl) (fun _ _ _ h => h) (Or.inl ⟨by kernel_rfl, fun u hSu => by go_simp⟩) hdw ?_
  simp only [Act.put, List.setIfInBounds_toArray, List.set_cons_zero, List.set_cons_succ]
  refine wpAnyH_take (i := 2) (v := .bool true) rfl (by kernel_rfl) (by kernel_rfl) (by kernel_rfl) (fun _ _ _ h => h) (Or.inl ⟨by kernel_rfl, fun u hSu => by go_simp⟩) hdw ?_
  simp only [Act.put, List.setIfInBounds_toArray, List.set_cons_zero, List.set_cons_succ]
  refine wpAnyH_take (i := 3) (v := .int .i64 i) rfl (by kernel_rfl) (by kernel_rfl) (by kernel_rfl) (fun _ _ _ h => h) (Or.inl ⟨by kernel_rfl, fun u hSu => by go_simp⟩) hdw ?_
  simp only [Act.put, List.setIfInBounds_toArray, List.set_cons_zero, List.set_cons_succ]
  refine wpAnyH_take (i := 9) (v := (.slice av nv cv)) rfl (by kernel_rfl) (by kernel_rfl) (by kernel_rfl) (fun _ _ _ h => h) (Or.inl ⟨by kernel_rfl, fun u hSu => by go_simp⟩) hdw ?_
  simp only [Act.put, List.setIfInBounds_toArray, List.set_cons_zero, List.set_cons_succ]
  refine wpAnyH_take (i := 5) (v := .agg (mc m s).toArray) rfl (by kernel_rfl) (by kernel_rfl) (by kernel_rfl) (fun _ _ _ h => h) (yieldsIf_load_mid (by kernel_rfl) _ _ rfl w.heap.size 0 rfl (mc m s) _ HG.out Tryz.underlying32 rfl (by kernel_rfl)) hdw ?_
  simp only [Act.put, List.setIfInBounds_toArray, List.set_cons_zero, List.set_cons_succ]
  refine wpAnyH_take (i := 7) (v := .agg (mc m s).toArray) rfl (by kernel_rfl) (by kernel_rfl) (by kernel_rfl) (fun _ _ _ h => h) (yieldsIf_load_mid (by kernel_rfl) _ _ rfl w.heap.size 0 rfl (mc m s) _ HG.out Tryz.underlying32 rfl (by kernel_rfl)) hdw ?_
  simp only [Act.put, List.setIfInBounds_toArray, List.set_cons_zero, List.set_cons_succ]
  refine wpAnyH_ready (rs := [4, 10]) (by kernel_rfl) (by simp) ?_
  refine AllReadyH.cons (o := _) rfl (fun K hK => ?_) ?_
  · skip
    go_simp
    refine (HR.out w2.drew hdw).mono ?_
    rintro e u1 ⟨rfl, c1⟩
    have b1 := below_and hdw (Nat.le_refl _) c1
    try go_simp
    refine hK.out _ _ b1 (fun hHeld => ?_)
    clear hK K hHeld
    refine wpAnyH_ready (rs := [6, 10]) (by kernel_rfl) (by simp) ?_
    refine AllReadyH.cons (o := _) rfl (fun K hK => ?_) ?_
    · skip
      go_simp
      refine (HS.out u1 b1).mono ?_
      rintro e u2 ⟨gv, rfl, g2, c2⟩
      have b2 := below_and b1 (Nat.le_refl _) c2
      try go_simp
      refine hK.out _ _ b2 (fun hHeld => ?_)
      clear hK K hHeld
      refine wpAnyH_ready (rs := [8, 10]) (by kernel_rfl) (by simp) ?_
      refine AllReadyH.cons (o := _) rfl (fun K hK => ?_) ?_
      · skip
        go_simp
        refine (HD.out u2 b2).mono ?_
        rintro e u3 ⟨rfl, c3⟩
        have g3 := g2.below c3
        have b3 := below_and b2 (Nat.le_refl _) c3
        try go_simp
        refine hK.out _ _ b3 (fun hHeld => ?_)
        clear hK K hHeld
        refine wpAnyH_ready (rs := [10]) (by kernel_rfl) (by simp) ?_
        refine AllReadyH.cons (o := _) rfl (fun K hK => ?_) AllReadyH.nil
        go_simp
        have c4 := below_alloc u3 (.cells #[(.slice av nv cv)] 24)
        have q4 := RDL.out u3 b3
        have g4 := g3.below c4
        have b4 := below_and b3 (Nat.le_refl _) c4
        refine hK.out _ _ b4 (fun hHeld => ?_)
        clear hK K hHeld
        refine wpAnyH_ready (rs := [11]) (by kernel_rfl) (by simp) ?_
        refine AllReadyH.cons (o := _) rfl (fun K hK => ?_) AllReadyH.nil
        go_simp
        refine (verify_any _ (repL i) _ (sgM m) (domS m) _ [seaB m] g4 q4 (domS_size m) HT.out (TT.out _ b4)).mono ?_
        rintro e u9 ⟨rfl, c9⟩
        have b9 := below_and b4 (Nat.le_refl _) c9
        generalize hbb : verL (repL i) (sgM m) (sL (domS m)) [seaB m] = bb
        replace hbb := (show Hid (verL (repL i) (sgM m) (sL (domS m)) [seaB m] = bb) from hbb)
        try go_simp
        refine hK.out _ _ b9 (fun hHeld => ?_)
        clear hK K hHeld
        refine wpAnyH_ready (rs := [12]) (by kernel_rfl) (by simp) ?_
        refine AllReadyH.cons (o := _) rfl (fun K hK => ?_) AllReadyH.nil
        go_simp
        refine hK.out _ _ b9 (fun hHeld => ?_)
        clear hK K hHeld
        refine wpAnyH_ready (rs := [13]) (by kernel_rfl) (by simp) ?_
        refine AllReadyH.cons (o := _) rfl (fun K hK => ?_) AllReadyH.nil
        go_simp
        refine hK.out _ _ b9 (fun hHeld => ?_)
        clear hK K hHeld
        refine wpAnyH_done (by kernel_rfl) ?_ _
        go_wp2_with fail
        go_ret
        exact ⟨by rw [hbb.out]; rfl, below_and B2 (Nat.le_refl _) b9⟩
      refine AllReadyH.cons (o := _) rfl (fun K hK => ?_) AllReadyH.nil
      go_simp
      have c3 := below_alloc u2 (.cells #[(.slice av nv cv)] 24)
      have q3 := RDL.out u2 b2
      have g3 := g2.below c3
      have b3 := below_and b2 (Nat.le_refl _) c3
      refine hK.out _ _ b3 (fun hHeld => ?_)
      clear hK K hHeld
      refine wpAnyH_ready (rs := [8]) (by kernel_rfl) (by simp) ?_
      refine AllReadyH.cons (o := _) rfl (fun K hK => ?_) AllReadyH.nil
      go_simp
      refine (HD.out (u2.alloc (.cells #[(.slice av nv cv)] 24)) b3).mono ?_
      rintro e u4 ⟨rfl, c4⟩
      have q4 := q3.below c4
      have g4 := g3.below c4
      have b4 := below_and b3 (Nat.le_refl _) c4
      try go_simp
      refine hK.out _ _ b4 (fun hHeld => ?_)
      clear hK K hHeld
      refine wpAnyH_ready (rs := [11]) (by kernel_rfl) (by simp) ?_
      refine AllReadyH.cons (o := _) rfl (fun K hK => ?_) AllReadyH.nil
      go_simp
      refine (verify_any _ (repL i) _ (sgM m) (domS m) _ [seaB m] g4 q4 (domS_size m) HT.out (TT.out _ b4)).mono ?_
      rintro e u9 ⟨rfl, c9⟩
      have b9 := below_and b4 (Nat.le_refl _) c9
      generalize hbb : verL (repL i) (sgM m) (sL (domS m)) [seaB m] = bb
      replace hbb := (show Hid (verL (repL i) (sgM m) (sL (domS m)) [seaB m] = bb) from hbb)
      try go_simp
      refine hK.out _ _ b9 (fun hHeld => ?_)
      clear hK K hHeld
      refine wpAnyH_ready (rs := [12]) (by kernel_rfl) (by simp) ?_
      refine AllReadyH.cons (o := _) rfl (fun K hK => ?_) AllReadyH.nil
      go_simp
      refine hK.out _ _ b9 (fun hHeld => ?_)
      clear hK K hHeld
      refine wpAnyH_ready (rs := [13]) (by kernel_rfl) (by simp) ?_
      refine AllReadyH.cons (o := _) rfl (fun K hK => ?_) AllReadyH.nil
      go_simp
      refine hK.out _ _ b9 (fun hHeld => ?_)
      clear hK K hHeld
      refine wpAnyH_done (by kernel_rfl) ?_ _
      go_wp2_with fail
      go_ret
      exact ⟨by rw [hbb.out]; rfl, below_and B2 (Nat.le_refl _) b9⟩
    refine AllReadyH.cons (o := _) rfl (fun K hK => ?_) AllReadyH.nil
    go_simp
    have c2 := below_alloc u1 (.cells #[(.slice av nv cv)] 24)
    have q2 := RDL.out u1 b1
    have b2 := below_and b1 (Nat.le_refl _) c2
    refine hK.out _ _ b2 (fun hHeld => ?_)
    clear hK K hHeld
    refine wpAnyH_ready (rs := [6]) (by kernel_rfl) (by simp) ?_
    refine AllReadyH.cons (o := _) rfl (fun K hK => ?_) AllReadyH.nil
    go_simp
    refine (HS.out (u1.alloc (.cells #[(.slice av nv cv)] 24)) b2).mono ?_
    rintro e u3 ⟨gv, rfl, g3, c3⟩
    have q3 := q2.below c3
    have b3 := below_and b2 (Nat.le_refl _) c3
    try go_simp
    refine hK.out _ _ b3 (fun hHeld => ?_)
    clear hK K hHeld
    refine wpAnyH_ready (rs := [8]) (by kernel_rfl) (by simp) ?_
    refine AllReadyH.cons (o := _) rfl (fun K hK => ?_) AllReadyH.nil
    go_simp
    refine (HD.out u3 b3).mono ?_
    rintro e u4 ⟨rfl, c4⟩
    have q4 := q3.below c4
    have g4 := g3.below c4
    have b4 := below_and b3 (Nat.le_refl _) c4
    try go_simp
    refine hK.out _ _ b4 (fun hHeld => ?_)
    clear hK K hHeld
    refine wpAnyH_ready (rs := [11]) (by kernel_rfl) (by simp) ?_
    refine AllReadyH.cons (o := _) rfl (fun K hK => ?_) AllReadyH.nil
    go_simp
    refine (verify_any _ (repL i) _ (sgM m) (domS m) _ [seaB m] g4 q4 (domS_size m) HT.out (TT.out _ b4)).mono ?_
    rintro e u9 ⟨rfl, c9⟩
    have b9 := below_and b4 (Nat.le_refl _) c9
    generalize hbb : verL (repL i) (sgM m) (sL (domS m)) [seaB m] = bb
    replace hbb := (show Hid (verL (repL i) (sgM m) (sL (domS m)) [seaB m] = bb) from hbb)
    try go_simp
    refine hK.out _ _ b9 (fun hHeld => ?_)
    clear hK K hHeld
    refine wpAnyH_ready (rs := [12]) (by kernel_rfl) (by simp) ?_
    refine AllReadyH.cons (o := _) rfl (fun K hK => ?_) AllReadyH.nil
    go_simp
    refine hK.out _ _ b9 (fun hHeld => ?_)
    clear hK K hHeld
    refine wpAnyH_ready (rs := [13]) (by kernel_rfl) (by simp) ?_
    refine AllReadyH.cons (o := _) rfl (fun K hK => ?_) AllReadyH.nil
    go_simp
    refine hK.out _ _ b9 (fun hHeld => ?_)
    clear hK K hHeld
    refine wpAnyH_done (by kernel_rfl) ?_ _
    go_wp2_with fail
    go_ret
    exact ⟨by rw [hbb.out]; rfl, below_and B2 (Nat.le_refl _) b9⟩
  refine AllReadyH.cons (o := _) rfl (fun K hK => ?_) AllReadyH.nil
  go_simp
  have c1 := below_alloc w2.drew (.cells #[(.slice av nv cv)] 24)
  have q1 := RDL.out w2.drew hdw
  have b1 := below_and hdw (Nat.le_refl _) c1
  refine hK.out _ _ b1 (fun hHeld => ?_)
  clear hK K hHeld
  refine wpAnyH_ready (rs := [4]) (by kernel_rfl) (by simp) ?_
  refine AllReadyH.cons (o := _) rfl (fun K hK => ?_) AllReadyH.nil
  go_simp
  refine (HR.out (w2.drew.alloc (.cells #[(.slice av nv cv)] 24)) b1).mono ?_
  rintro e u2 ⟨rfl, c2⟩
  have q2 := q1.below c2
  have b2 := below_and b1 (Nat.le_refl _) c2
  try go_simp
  refine hK.out _ _ b2 (fun hHeld => ?_)
  clear hK K hHeld
  refine wpAnyH_ready (rs := [6]) (by kernel_rfl) (by simp) ?_
  refine AllReadyH.cons (o := _) rfl (fun K hK => ?_) AllReadyH.nil
  go_simp
  refine (HS.out u2 b2).mono ?_
  rintro e u3 ⟨gv, rfl, g3, c3⟩
  have q3 := q2.below c3
  have b3 := below_and b2 (Nat.le_refl _) c3
  try go_simp
  refine hK.out _ _ b3 (fun hHeld => ?_)
  clear hK K hHeld
  refine wpAnyH_ready (rs := [8]) (by kernel_rfl) (by simp) ?_
  refine AllReadyH.cons (o := _) rfl (fun K hK => ?_) AllReadyH.nil
  go_simp
  refine (HD.out u3 b3).mono ?_
  rintro e u4 ⟨rfl, c4⟩
  have q4 := q3.below c4
  have g4 := g3.below c4
  have b4 := below_and b3 (Nat.le_refl _) c4
  try go_simp
  refine hK.out _ _ b4 (fun hHeld => ?_)
  clear hK K hHeld
  refine wpAnyH_ready (rs := [11]) (by kernel_rfl) (by simp) ?_
  refine AllReadyH.cons (o := _) rfl (fun K hK => ?_) AllReadyH.nil
  go_simp
  refine (verify_any _ (repL i) _ (sgM m) (domS m) _ [seaB m] g4 q4 (domS_size m) HT.out (TT.out _ b4)).mono ?_
  rintro e u9 ⟨rfl, c9⟩
  have b9 := below_and b4 (Nat.le_refl _) c9
  generalize hbb : verL (repL i) (sgM m) (sL (domS m)) [seaB m] = bb
  replace hbb := (show Hid (verL (repL i) (sgM m) (sL (domS m)) [seaB m] = bb) from hbb)
  try go_simp
  refine hK.out _ _ b9 (fun hHeld => ?_)
  clear hK K hHeld
  refine wpAnyH_ready (rs := [12]) (by kernel_rfl) (by simp) ?_
  refine AllReadyH.cons (o := _) rfl (fun K hK => ?_) AllReadyH.nil
  go_simp
  refine hK.out _ _ b9 (fun hHeld => ?_)
  clear hK K hHeld
  refine wpAnyH_ready (rs := [13]) (by kernel_rfl) (by simp) ?_
  refine AllReadyH.cons (o := _) rfl (fun K hK => ?_) AllReadyH.nil
  go_simp
  refine hK.out _ _ b9 (fun hHeld => ?_)
  clear hK K hHeld
  refine wpAnyH_done (by kernel_rfl) ?_ _
  go_wp2_with fail
  go_ret
  exact ⟨by rw [hbb.out]; rfl, below_and B2 (Nat.le_refl _) b9⟩
end Go.Proofs.YtijmecplechhgaaGreatDoor
end
