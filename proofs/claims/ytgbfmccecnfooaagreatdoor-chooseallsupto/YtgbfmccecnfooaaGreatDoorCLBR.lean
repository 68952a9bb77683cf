/- Sealed messages: the document's Sealed. Made by mk13v.py. -/
import Derived.Test.YtgbfmccecnfooaaGreatDoorCLBN
import Derived.Test.YtgbfmccecnfooaaGreatDoorCLBH
import Derived.Test.YtgbfmccecnfooaaGreatDoorCLBB
import Derived.Test.YtgbfmccecnfooaaGreatDoorCLBO
import Derived.Deep.RegionHeld3
import Derived.Test.YtgbfmccecnfooaaGreatDoorCLBP
set_option linter.unusedSimpArgs false
set_option linter.unusedVariables false
namespace Go.Proofs.YtgbfmccecnfooaaGreatDoor
section
open Go.RowKit Oct
/-- The signature of a message. -/
def seaS (m : PMsg) (i : Int) : List Int := if seaE m = 0 then signL (repL i) (sL (domS m)) [seaB m] else []
theorem bM_ws {m : PMsg} (h : bM m ≤ 1060000) : bM (wsM m []) ≤ 1100000 := by
  have hR : ∀ r : PRep, bR (repSig r []) ≤ bR r := fun r => by simp only [bR, repSig, bT, List.length_nil]; omega
  have hS : ∀ l : List PRep, bS bR (l.map fun r => repSig r []) ≤ bS bR l := fun l => by
    induction l with
    | nil => simp [bS]
    | cons a l ih => have := hR a; simp only [List.map_cons, bS]; omega
  unfold wsM
  split
  · have := hS m.reps
    simp only [bM, bL] at h ⊢
    omega
  · simp only [bM, bT, List.length_nil] at h ⊢
    omega
set_option maxRecDepth 10000 in
set_option maxHeartbeats 8000000 in
theorem refSealText_any (w : World) (m : PMsg) (s : SV) (i : Int) (hs : SOk Any w m s) (hz : szM m) (hb : bM m ≤ 1060000) : Calls Tryz.prog 63 #[.agg (mc m s).toArray, .int .i64 i] w fun e w' => ∃ v, e = .returned v ∧ Own w' 5 v (bc (seaT m i)) ∧ Fr w.heap.size v ∧ Below w.heap.size w w' := by
  obtain ⟨w1, hw1, r1, B1⟩ := boxM w m s
  have hBa := refBare_any w1 m s (hs.below B1) hz
  have hen : ∀ u s', SOk Any u (wsM m []) s' → Calls Tryz.prog 93 #[.agg (mc (wsM m []) s').toArray] u fun e w' => ∃ v', e = .returned (.tuple #[v', .int .i64 (seaE m)]) ∧ Rd w' v' (seaB m) ∧ Below u.heap.size u w' := fun u s' h => refEncode_any u (wsM m []) s' h (bM_ws hb)
  unfold seaT
  by_cases h0 : seaE m = 0
  case neg =>
    rw [if_neg h0]
    obtain ⟨E, hE⟩ : ∃ E, E = seaE m := ⟨_, rfl⟩
    rw [← hE] at hen h0
    have HEn := (show Hid (∀ u s', SOk Any u (wsM m []) s' → Calls Tryz.prog 93 #[.agg (mc (wsM m []) s').toArray] u fun e w' => ∃ v', e = .returned (.tuple #[v', .int .i64 E]) ∧ Rd w' v' (seaB m) ∧ Below u.heap.size u w') from hen)
    clear hE hen
    go_enter Tryz.func63, Tryz.ntmps63
    go_upto_region 1 with fail
    rw [← hw1]
    clear hw1
    go_wp2_with (first
      | (refine wl_load rfl _ _ rfl w.heap.size rfl _ _ r1 _ Tryz.underlying72 rfl (by kernel_rfl) ?_)
      | (go_at_call 94; refine hBa.mono ?_; rintro e wb ⟨sb, C, rfl, hsb, hbb⟩)
      | (go_at_call 93; refine (HEn.out wb sb hsb.any).mono ?_; rintro e w2 ⟨sv, rfl, R2, hb2⟩))
    go_ret
    exact ⟨_, rfl, Own.nil _ _, Fr.nil _, below_and (below_and B1 (Nat.le_refl _) hbb) (Nat.le_refl _) hb2⟩
  rw [if_pos h0]
  rw [h0] at hen
  have HEn := (show Hid (∀ u s', SOk Any u (wsM m []) s' → Calls Tryz.prog 93 #[.agg (mc (wsM m []) s').toArray] u fun e w' => ∃ v', e = .returned (.tuple #[v', .int .i64 0]) ∧ Rd w' v' (seaB m) ∧ Below u.heap.size u w') from hen)
  clear h0 hen
  go_enter Tryz.func63, Tryz.ntmps63
  go_upto_region 1 with fail
  rw [← hw1]
  clear hw1
  go_upto_region 4 with (first
    | (refine wl_load rfl _ _ rfl w.heap.size rfl _ _ r1 _ Tryz.underlying72 rfl (by kernel_rfl) ?_)
    | (go_at_call 94; refine hBa.mono ?_; rintro e wb ⟨sb, C, rfl, hsb, hbb⟩)
    | (go_at_call 93; refine (HEn.out wb sb hsb.any).mono ?_; rintro e w2 ⟨sv, rfl, R2, hb2⟩))
  have hb12 := below_and hbb (Nat.le_refl _) hb2
  have B2 := below_and B1 (Nat.le_refl _) hb12
  have r2 := r1.below hb12
  have hs2 := hs.below B2
  have hdw : Below w2.heap.size w2 w2.drew := ⟨rfl, rfl, rfl, Nat.le_refl _, fun _ _ => rfl⟩
  obtain ⟨av, cv, rfl, hcv⟩ := R2.form
  obtain ⟨nv, hnv⟩ : ∃ nv, nv = (seaB m).length := ⟨_, rfl⟩
  rw [← hnv] at R2
  rw [← hnv]
  have HR := (show Hid (∀ u, Below w2.heap.size w2 u → Calls Tryz.prog 73 #[.int .i64 i] u fun e w' => e = .returned (.int .i64 (repL i)) ∧ Below u.heap.size u w') from fun u _ => (refReplica_any u i).mono fun e w' h => ⟨h.1, h.2 ▸ Below.refl _ _⟩)
  have HD := (show Hid (∀ u, Below w2.heap.size w2 u → Calls Tryz.prog 96 #[.agg (mc m s).toArray] u fun e w' => e = .returned (.string (domS m)) ∧ Below u.heap.size u w') from fun u hu => refDomain_any Any u m s (hs2.below hu))
  have RDL := (show Hid (∀ u, Below w2.heap.size w2 u → Rdl (u.alloc (.cells #[.slice av nv cv] 24)) (.slice (some ⟨u.heap.size, 0, none⟩) 1 1) [seaB m]) from fun u hu => rdlS_one u (.slice av nv cv) _ (R2.below hu))
  have HT := (show Hid (tot [seaB m] ≤ 4000000) by show _ ≤ _; have := seaB_len m; simp only [tot]; omega)
  have HG := (show Hid (∀ u, Below w2.heap.size w2 u → u.rangeAt w.heap.size 0 (mc m s)) from fun u hu j x hx => by rw [Nat.zero_add]; exact (r2.below hu).cell hx)
  clear hBa r1 r2 hs2 hs R2 hb2 hbb hb12 B1 hcv hnv hsb HEn
  try go_simp
  refine wp_region_held_drew (S := fun u => Below w2.heap.size w2 u) (by kernel_rfl) hdw (fun hHeld => ?_)
  clear hHeld
  refine wpAnyH_take (i := 0) (v := .int .i64 i) rfl (by kernel_rfl) (by kernel_rfl) (by kernel_rfl) (fun _ _ _ h => h) (Or.inl ⟨by rfl, fun u hSu => by go_simp⟩) hdw ?_
  simp only [Act.put, List.setIfInBounds_toArray, List.set_cons_zero, List.set_cons_succ]
  refine wpAnyH_take (i := 4) (v := (.slice av nv cv)) rfl (by kernel_rfl) (by kernel_rfl) (by kernel_rfl) (fun _ _ _ h => h) (Or.inl ⟨by rfl, fun u hSu => by go_simp⟩) hdw ?_
  simp only [Act.put, List.setIfInBounds_toArray, List.set_cons_zero, List.set_cons_succ]
  refine wpAnyH_take (i := 2) (v := .agg (mc m s).toArray) rfl (by kernel_rfl) (by kernel_rfl) (by kernel_rfl) (fun _ _ _ h => h) (yieldsIf_load_mid (by rfl) _ _ rfl w.heap.size 0 rfl (mc m s) _ HG.out Tryz.underlying72 rfl (by kernel_rfl)) hdw ?_
  simp only [Act.put, List.setIfInBounds_toArray, List.set_cons_zero, List.set_cons_succ]
  refine wpAnyH_ready (rs := [1, 5]) (by kernel_rfl) (by simp) ?_
  refine AllReadyH.cons (o := _) rfl (fun K hK => ?_) ?_
  · go_simp
    refine ((HR).out w2.drew hdw).mono ?_
    rintro e u1 ⟨rfl, c1⟩
    have b1 := below_and hdw (Nat.le_refl _) c1
    try go_simp
    refine hK.out _ _ b1 (fun hHeld => ?_)
    clear hK K hHeld
    refine wpAnyH_ready (rs := [3, 5]) (by kernel_rfl) (by simp) ?_
    refine AllReadyH.cons (o := _) rfl (fun K hK => ?_) ?_
    · go_simp
      refine ((HD).out u1 b1).mono ?_
      rintro e u2 ⟨rfl, c2⟩
      have b2 := below_and b1 (Nat.le_refl _) c2
      try go_simp
      refine hK.out _ _ b2 (fun hHeld => ?_)
      clear hK K hHeld
      refine wpAnyH_ready (rs := [5]) (by kernel_rfl) (by simp) ?_
      refine AllReadyH.cons (o := _) rfl (fun K hK => ?_) AllReadyH.nil
      go_simp
      have c3 := below_alloc u2 (.cells #[.slice av nv cv] 24)
      have b3 := below_and b2 (Nat.le_refl _) c3
      have q3 := RDL.out u2 b2
      refine hK.out _ _ b3 (fun hHeld => ?_)
      clear hK K hHeld
      refine wpAnyH_ready (rs := [6]) (by kernel_rfl) (by simp) ?_
      refine AllReadyH.cons (o := _) rfl (fun K hK => ?_) AllReadyH.nil
      go_simp
      refine (refTextK_any _ (repL i) (domS m) _ [seaB m] q3 (domS_size m) HT.out).mono ?_
      rintro e u9 ⟨v9, rfl, o9, f9, c9⟩
      have b9 := below_and b3 (Nat.le_refl _) c9
      have F9 := f9.mono b3.size
      try go_simp
      refine hK.out _ _ b9 (fun hHeld => ?_)
      clear hK K hHeld
      refine wpAnyH_ready (rs := [7]) (by kernel_rfl) (by simp) ?_
      refine AllReadyH.cons (o := _) rfl (fun K hK => ?_) AllReadyH.nil
      go_simp
      refine hK.out _ _ b9 (fun hHeld => ?_)
      clear hK K hHeld
      refine wpAnyH_done (by kernel_rfl) ?_ _
      go_wp2_with fail
      go_ret
      exact ⟨_, rfl, o9, F9.mono B2.size, below_and B2 (Nat.le_refl _) b9⟩
    refine AllReadyH.cons (o := _) rfl (fun K hK => ?_) AllReadyH.nil
    go_simp
    have c2 := below_alloc u1 (.cells #[.slice av nv cv] 24)
    have b2 := below_and b1 (Nat.le_refl _) c2
    have q2 := RDL.out u1 b1
    refine hK.out _ _ b2 (fun hHeld => ?_)
    clear hK K hHeld
    refine wpAnyH_ready (rs := [3]) (by kernel_rfl) (by simp) ?_
    refine AllReadyH.cons (o := _) rfl (fun K hK => ?_) AllReadyH.nil
    go_simp
    refine ((HD).out (u1.alloc (.cells #[.slice av nv cv] 24)) b2).mono ?_
    rintro e u3 ⟨rfl, c3⟩
    have b3 := below_and b2 (Nat.le_refl _) c3
    have q3 := q2.below c3
    try go_simp
    refine hK.out _ _ b3 (fun hHeld => ?_)
    clear hK K hHeld
    refine wpAnyH_ready (rs := [6]) (by kernel_rfl) (by simp) ?_
    refine AllReadyH.cons (o := _) rfl (fun K hK => ?_) AllReadyH.nil
    go_simp
    refine (refTextK_any _ (repL i) (domS m) _ [seaB m] q3 (domS_size m) HT.out).mono ?_
    rintro e u9 ⟨v9, rfl, o9, f9, c9⟩
    have b9 := below_and b3 (Nat.le_refl _) c9
    have F9 := f9.mono b3.size
    try go_simp
    refine hK.out _ _ b9 (fun hHeld => ?_)
    clear hK K hHeld
    refine wpAnyH_ready (rs := [7]) (by kernel_rfl) (by simp) ?_
    refine AllReadyH.cons (o := _) rfl (fun K hK => ?_) AllReadyH.nil
    go_simp
    refine hK.out _ _ b9 (fun hHeld => ?_)
    clear hK K hHeld
    refine wpAnyH_done (by kernel_rfl) ?_ _
    go_wp2_with fail
    go_ret
    exact ⟨_, rfl, o9, F9.mono B2.size, below_and B2 (Nat.le_refl _) b9⟩
  refine AllReadyH.cons (o := _) rfl (fun K hK => ?_) AllReadyH.nil
  go_simp
  have c1 := below_alloc w2.drew (.cells #[.slice av nv cv] 24)
  have b1 := below_and hdw (Nat.le_refl _) c1
  have q1 := RDL.out w2.drew hdw
  refine hK.out _ _ b1 (fun hHeld => ?_)
  clear hK K hHeld
  refine wpAnyH_ready (rs := [1]) (by kernel_rfl) (by simp) ?_
  refine AllReadyH.cons (o := _) rfl (fun K hK => ?_) AllReadyH.nil
  go_simp
  refine ((HR).out (w2.drew.alloc (.cells #[.slice av nv cv] 24)) b1).mono ?_
  rintro e u2 ⟨rfl, c2⟩
  have b2 := below_and b1 (Nat.le_refl _) c2
  have q2 := q1.below c2
  try go_simp
  refine hK.out _ _ b2 (fun hHeld => ?_)
  clear hK K hHeld
  refine wpAnyH_ready (rs := [3]) (by kernel_rfl) (by simp) ?_
  refine AllReadyH.cons (o := _) rfl (fun K hK => ?_) AllReadyH.nil
  go_simp
  refine ((HD).out u2 b2).mono ?_
  rintro e u3 ⟨rfl, c3⟩
  have b3 := below_and b2 (Nat.le_refl _) c3
  have q3 := q2.below c3
  try go_simp
  refine hK.out _ _ b3 (fun hHeld => ?_)
  clear hK K hHeld
  refine wpAnyH_ready (rs := [6]) (by kernel_rfl) (by simp) ?_
  refine AllReadyH.cons (o := _) rfl (fun K hK => ?_) AllReadyH.nil
  go_simp
  refine (refTextK_any _ (repL i) (domS m) _ [seaB m] q3 (domS_size m) HT.out).mono ?_
  rintro e u9 ⟨v9, rfl, o9, f9, c9⟩
  have b9 := below_and b3 (Nat.le_refl _) c9
  have F9 := f9.mono b3.size
  try go_simp
  refine hK.out _ _ b9 (fun hHeld => ?_)
  clear hK K hHeld
  refine wpAnyH_ready (rs := [7]) (by kernel_rfl) (by simp) ?_
  refine AllReadyH.cons (o := _) rfl (fun K hK => ?_) AllReadyH.nil
  go_simp
  refine hK.out _ _ b9 (fun hHeld => ?_)
  clear hK K hHeld
  refine wpAnyH_done (by kernel_rfl) ?_ _
  go_wp2_with fail
  go_ret
  exact ⟨_, rfl, o9, F9.mono B2.size, below_and B2 (Nat.le_refl _) b9⟩
end
section
open Go.RowKit Oct
theorem own_row_nS {w : World} {e t : TypeId} {b : Nat} {xs ys : List Value} {v : Value} (hr : Row w b t xs) (h : Own w e v ys) (he : e ≠ t) : v.ownBlock ≠ some b := by
  intro hk
  rcases h.2 with ⟨rfl, _⟩ | ⟨g, _, cur, rfl, _, hg, _⟩
  · simp [Value.ownBlock] at hk
  · simp [Value.ownBlock] at hk
    subst hk
    unfold Row at hr
    rw [hg] at hr
    simp at hr
    exact he hr.2
theorem seaS_byt (m : PMsg) (i : Int) : Byt (seaS m i) := by
  unfold seaS
  split
  · exact signL_byt _ _ _
  · exact Byt.nil
set_option maxRecDepth 10000 in
set_option maxHeartbeats 16000000 in
theorem refSeal_no (w : World) (m : PMsg) (s : SV) (i : Int) (hs : SOk Any w m s) (hz : szM m) (hb : bM m ≤ 1060000) (ho : oneM m = false) : Calls Tryz.prog 65 #[.agg (mc m s).toArray, .int .i64 i] w fun e w' => ∃ s', e = .returned (.agg (mc (wsM m (seaS m i)) s').toArray) ∧ SOk Any w' (wsM m (seaS m i)) s' ∧ Below w.heap.size w w' := by
  obtain ⟨w1, hw1⟩ : ∃ w1, w1 = (w.alloc (.cells (mc m s).toArray 72)).alloc (.cells #[.int .i64 0, .int .i64 0, .int .i64 0, .int .i64 0, .int .i64 0, .int .i64 0, .int .i64 0, .int .i64 0, .int .i64 0, .int .i64 0, .slice none 0 0, .slice none 0 0, .int .i64 0, .int .i64 0, .slice none 0 0, .slice none 0 0, .slice none 0 0, .slice none 0 0, .slice none 0 0, .slice none 0 0, .slice none 0 0, .slice none 0 0, .slice none 0 0] 72) := ⟨_, rfl⟩
  have r1 : Row w1 w.heap.size 72 (mc m s) := by rw [hw1]; exact rowA (Row.new w _ _) _
  have rr1 : Row w1 (w.heap.size + 1) 72 (mc zeroM sv0) := by
    have h1 : (w.alloc (.cells (mc m s).toArray 72)).heap.size = w.heap.size + 1 := by simp
    rw [hw1, ← h1]
    exact Row.new (w.alloc (.cells (mc m s).toArray 72)) 72 (mc zeroM sv0)
  have B1 : Below w.heap.size w w1 := by rw [hw1]; exact ((Below.refl _ w).alloc (Nat.le_refl _) _).alloc (by simp) _
  have hz2 : w.heap.size + 2 ≤ w1.heap.size := by rw [hw1]; simp
  have HBa := (show Hid (∀ u, Below w1.heap.size w1 u → Calls Tryz.prog 94 #[.agg (mc m s).toArray] u fun e w' => ∃ s' C, e = .returned (.agg (mc (wsM m []) s').toArray) ∧ SOkL u.heap.size C w' (wsM m []) s' ∧ Below u.heap.size u w') from fun u hu => refBare_any u m s (hs.below (below_and B1 (Nat.le_refl _) hu)) hz)
  have HON := (show Hid (∀ u, Below w1.heap.size w1 u → Calls Tryz.prog 97 #[.agg (mc m s).toArray] u fun e w' => e = .returned (.bool (oneM m)) ∧ Below u.heap.size u w') from fun u hu => refOne_any Any u m s (hs.below (below_and B1 (Nat.le_refl _) hu)))
  have hen : ∀ u s', SOk Any u (wsM m []) s' → Calls Tryz.prog 93 #[.agg (mc (wsM m []) s').toArray] u fun e w' => ∃ v', e = .returned (.tuple #[v', .int .i64 (seaE m)]) ∧ Rd w' v' (seaB m) ∧ Below u.heap.size u w' := fun u s' h => refEncode_any u (wsM m []) s' h (bM_ws hb)
  have hone0 := hs.one
  rw [ho] at HON
  have HW := (show Hid (wsM m (seaS m i) = { m with sig := seaS m i }) by show _ = _; unfold wsM; rw [if_neg (by simp [ho])])
  clear ho
  by_cases h0 : seaE m = 0
  case neg =>
    have HS := (show Hid (seaS m i = []) by show _ = _; unfold seaS; rw [if_neg h0])
    obtain ⟨E, hE⟩ : ∃ E, E = seaE m := ⟨_, rfl⟩
    rw [← hE] at hen h0
    have h0' : (E == 0) = false := by simp [h0]
    have HEn := (show Hid (∀ u s', SOk Any u (wsM m []) s' → Calls Tryz.prog 93 #[.agg (mc (wsM m []) s').toArray] u fun e w' => ∃ v', e = .returned (.tuple #[v', .int .i64 E]) ∧ Rd w' v' (seaB m) ∧ Below u.heap.size u w') from hen)
    clear hE hen
    go_enter Tryz.func65, Tryz.ntmps65
    go_upto_region 1 with fail
    rw [← hw1]
    clear hw1
    go_upto_region 2 with (first
      | (refine wl_load rfl _ _ rfl w.heap.size rfl _ _ r1 _ Tryz.underlying72 rfl (by kernel_rfl) ?_)
      | (go_at_call 94; refine (HBa.out w1 (Below.refl _ _)).mono ?_; rintro e wb ⟨sb, C, rfl, hsb, hbb⟩; have honb := hsb.any.one; have rnb := Row.new wb 72 (mc zeroM sv0))
      | (refine wl_store rfl _ _ _ rfl wb.heap.size (mc (wsM m []) sb) rfl rfl _ _ rnb rfl (by kernel_rfl) honb ?_; intro wc rc hgc))
    have r5c := rc.out
    have hbc : Below wb.heap.size wb wc := (below_alloc wb (.cells (mc zeroM sv0).toArray 72)).trans (grown_below hgc (by simp) (fun k hk => by cases hk; exact Nat.le_refl _))
    obtain ⟨b5, hb5⟩ : ∃ b5, b5 = wb.heap.size := ⟨_, rfl⟩
    rw [← hb5] at r5c ⊢
    have hb5g : wb.heap.size ≤ b5 := by omega
    have hb1c := below_and hbb (Nat.le_refl _) hbc
    have r1c := r1.below hb1c
    have hne0 : w.heap.size ≠ b5 := by have := hbb.size; omega
    have hne1 : w.heap.size + 1 ≠ b5 := by have := hbb.size; omega
    clear hb5
    go_upto_region 3 with (first
      | (refine wl_load rfl _ _ rfl w.heap.size rfl _ _ r1c _ Tryz.underlying72 rfl (by kernel_rfl) ?_)
      | (go_at_call 97; refine (HON.out wc hb1c).mono ?_; rintro e wd ⟨rfl, hbd⟩))
    have hb1d := below_and hb1c (Nat.le_refl _) hbd
    have hbbd := below_and hbc (Nat.le_refl _) hbd
    have r1d := r1.below hb1d
    have r5d := r5c.below hbd
    go_upto_region 5 with (first
      | (refine wl_load rfl _ _ rfl w.heap.size rfl _ _ r1d _ Tryz.underlying72 rfl (by kernel_rfl) ?_)
      | (refine wl_store rfl _ _ _ rfl b5 (mc m s) rfl rfl _ _ r5d rfl (by kernel_rfl) hone0 ?_; intro we re hge))
    have r5e : Row we b5 72 (mc m s) := re.out
    have hbde : Below wb.heap.size wb we := hbbd.trans (grown_below hge hbbd.size (fun k hk => by cases hk; omega))
    have hb1e : Below w1.heap.size w1 we := hbb.trans (hbde.mono hbb.size)
    have r1e := r1.below hb1e
    have rr1e := rr1.below hb1e
    clear rc hgc hbc r5c hb1c r1c hbd hb1d hbbd r1d r5d re hge rnb
    obtain ⟨wf, hwf⟩ : ∃ wf, wf = we.alloc (.cells #[] 5) := ⟨_, rfl⟩
    have of := own_zero we 5
    rw [← hwf] at of
    have hbf : Below we.heap.size we wf := by rw [hwf]; exact below_alloc _ _
    have hfz : Fr wb.heap.size (Value.slice (some ⟨we.heap.size, 0, none⟩) 0 0) := fr_at _ _ _ _ hbde.size
    have r1f := r1e.below hbf
    have hb1f := below_and hb1e (Nat.le_refl _) hbf
    go_upto_region 6 with fail
    rw [← hwf]
    clear hwf
    go_upto_region 9 with (first
      | (refine wl_load rfl _ _ rfl w.heap.size rfl _ _ r1f _ Tryz.underlying72 rfl (by kernel_rfl) ?_)
      | (go_at_call 94; refine (HBa.out wf hb1f).mono ?_; rintro e wg ⟨sg, C2, rfl, hsg, hbg⟩)
      | (go_at_call 93; refine (HEn.out wg sg hsg.any).mono ?_; rintro e w2 ⟨sv, rfl, R2, hb2⟩))
    have hb2f := below_and hbg (Nat.le_refl _) hb2
    have hbe2 := below_and hbf (Nat.le_refl _) hb2f
    have hbb2 := below_and hbde (Nat.le_refl _) hbe2
    have hb12 := below_and hb1e (Nat.le_refl _) hbe2
    have B2 := below_and B1 (Nat.le_refl _) hb12
    have hs2 := hs.below B2
    have r2 := r1.below hb12
    have rr2 := rr1.below hb12
    have r52 := r5e.below hbe2
    have HAT := (show Hid (∀ u, Below w2.heap.size w2 u → Row u w.heap.size 72 (mc m s) ∧ Row u (w.heap.size + 1) 72 (mc zeroM sv0) ∧ Row u b5 72 (mc m s) ∧ Below wb.heap.size wb u) from fun u hu => ⟨r2.below hu, rr2.below hu, r52.below hu, below_and hbb2 (Nat.le_refl _) hu⟩)
    have bX : Below w2.heap.size w2 w2 := Below.refl _ _
    have oX : Own w2 5 (Value.slice (some ⟨we.heap.size, 0, none⟩) 0 0) (bc (seaS m i)) := by rw [HS.out]; exact of.below hb2f
    have fX := hfz
    obtain ⟨t1, t2, t3, t4⟩ := HAT.out w2 bX
    have v1X : ((Value.slice (some ⟨we.heap.size, 0, none⟩) 0 0) : Value).oneCell' = true := own1 oX
    have honX : ∀ x ∈ mc { m with sig := seaS m i } { s with s := (Value.slice (some ⟨we.heap.size, 0, none⟩) 0 0) }, x.oneCell' = true := fun x hx => by
      have h2 : x = (Value.slice (some ⟨we.heap.size, 0, none⟩) 0 0) ∨ x ∈ mc m s := by
        simp only [mc, List.mem_cons, List.not_mem_nil, or_false] at hx ⊢
        grind
      rcases h2 with rfl | h2
      · exact v1X
      · exact hone0 x h2
    go_wp2_with (first
      | (refine wl_store rfl _ _ _ rfl (w.heap.size + 1) (mc { m with sig := seaS m i } { s with s := (Value.slice (some ⟨we.heap.size, 0, none⟩) 0 0) }) rfl rfl _ _ t2y rfl (by kernel_rfl) honX ?_; intro z3 rz3 hg3)
      | (refine wl_load rfl _ _ rfl b5 rfl _ _ t3y _ Tryz.underlying72 rfl (by kernel_rfl) ?_)
      | (refine wl_set rfl _ _ _ rfl b5 17 _ rfl rfl _ _ t3z (show 17 < 23 by decide) (by kernel_rfl) v1X ?_; intro z2 ry2 hg2; have t3y : Row z2 b5 72 (mc { m with sig := seaS m i } { s with s := (Value.slice (some ⟨we.heap.size, 0, none⟩) 0 0) }) := ry2.out; have t2y := t2z.grown hg2 (fun h => by injection h with h; exact hne1 h.symm))
      | (go_at_call 97; refine (HON.out w2 (below_and hb12 (Nat.le_refl _) bX)).mono ?_; rintro e z1 ⟨rfl, y1⟩; have t3z := t3.below y1; have t2z := t2.below y1)
      | (refine wl_load rfl _ _ rfl w.heap.size rfl _ _ t1 _ Tryz.underlying72 rfl (by kernel_rfl) ?_))
    have BU : Below w.heap.size w w2 := below_and B2 (Nat.le_refl _) bX
    have BZ := below_and BU (Nat.le_refl _) y1
    have hb5w : w.heap.size ≤ b5 := by have := hbb.size; omega
    have BZ2 := BZ.trans (grown_below hg2 BZ.size (fun k hk => by cases hk; exact hb5w))
    have BZ3 := BZ2.trans (grown_below hg3 BZ2.size (fun k hk => by cases hk; omega))
    have ozX : Own z1 5 (Value.slice (some ⟨we.heap.size, 0, none⟩) 0 0) (bc (seaS m i)) := oX.below y1
    have oz2 := ozX.grown hg2 (fun k hk => by cases hk; exact own_row_nS t3z ozX (by decide))
    have oz3 := oz2.grown hg3 (fun k hk => by cases hk; exact own_row_nS t2y oz2 (by decide))
    refine bodyPost_ret (v := .agg (mc { m with sig := seaS m i } { s with s := (Value.slice (some ⟨we.heap.size, 0, none⟩) 0 0) }).toArray) (results_cell_row rfl _ _ (w.heap.size + 1) _ _ (0, 0) _ (by rfl) rz3.out Tryz.underlying72 rfl (by kernel_rfl)) rfl ?_
    rw [HW.out]
    have hq := hs.below BZ3
    exact ⟨{ s with s := (Value.slice (some ⟨we.heap.size, 0, none⟩) 0 0) }, rfl, ⟨hq.o, hq.g, hq.o', hq.g', hq.d, ⟨oz3.rd (seaS_byt m i), fun _ _ _ => trivial⟩, hq.c, hq.v, hq.n, hq.p, hq.l⟩, BZ3⟩
  have HSS := (show Hid (seaS m i = signL (repL i) (sL (domS m)) [seaB m]) by show _ = _; unfold seaS; rw [if_pos h0])
  rw [h0] at hen
  have HEn := (show Hid (∀ u s', SOk Any u (wsM m []) s' → Calls Tryz.prog 93 #[.agg (mc (wsM m []) s').toArray] u fun e w' => ∃ v', e = .returned (.tuple #[v', .int .i64 0]) ∧ Rd w' v' (seaB m) ∧ Below u.heap.size u w') from hen)
  clear h0 hen
  go_enter Tryz.func65, Tryz.ntmps65
  go_upto_region 1 with fail
  rw [← hw1]
  clear hw1
  go_upto_region 2 with (first
    | (refine wl_load rfl _ _ rfl w.heap.size rfl _ _ r1 _ Tryz.underlying72 rfl (by kernel_rfl) ?_)
    | (go_at_call 94; refine (HBa.out w1 (Below.refl _ _)).mono ?_; rintro e wb ⟨sb, C, rfl, hsb, hbb⟩; have honb := hsb.any.one; have rnb := Row.new wb 72 (mc zeroM sv0))
    | (refine wl_store rfl _ _ _ rfl wb.heap.size (mc (wsM m []) sb) rfl rfl _ _ rnb rfl (by kernel_rfl) honb ?_; intro wc rc hgc))
  have r5c := rc.out
  have hbc : Below wb.heap.size wb wc := (below_alloc wb (.cells (mc zeroM sv0).toArray 72)).trans (grown_below hgc (by simp) (fun k hk => by cases hk; exact Nat.le_refl _))
  obtain ⟨b5, hb5⟩ : ∃ b5, b5 = wb.heap.size := ⟨_, rfl⟩
  rw [← hb5] at r5c ⊢
  have hb5g : wb.heap.size ≤ b5 := by omega
  have hb1c := below_and hbb (Nat.le_refl _) hbc
  have r1c := r1.below hb1c
  have hne0 : w.heap.size ≠ b5 := by have := hbb.size; omega
  have hne1 : w.heap.size + 1 ≠ b5 := by have := hbb.size; omega
  clear hb5
  go_upto_region 3 with (first
    | (refine wl_load rfl _ _ rfl w.heap.size rfl _ _ r1c _ Tryz.underlying72 rfl (by kernel_rfl) ?_)
    | (go_at_call 97; refine (HON.out wc hb1c).mono ?_; rintro e wd ⟨rfl, hbd⟩))
  have hb1d := below_and hb1c (Nat.le_refl _) hbd
  have hbbd := below_and hbc (Nat.le_refl _) hbd
  have r1d := r1.below hb1d
  have r5d := r5c.below hbd
  go_upto_region 5 with (first
    | (refine wl_load rfl _ _ rfl w.heap.size rfl _ _ r1d _ Tryz.underlying72 rfl (by kernel_rfl) ?_)
    | (refine wl_store rfl _ _ _ rfl b5 (mc m s) rfl rfl _ _ r5d rfl (by kernel_rfl) hone0 ?_; intro we re hge))
  have r5e : Row we b5 72 (mc m s) := re.out
  have hbde : Below wb.heap.size wb we := hbbd.trans (grown_below hge hbbd.size (fun k hk => by cases hk; omega))
  have hb1e : Below w1.heap.size w1 we := hbb.trans (hbde.mono hbb.size)
  have r1e := r1.below hb1e
  have rr1e := rr1.below hb1e
  clear rc hgc hbc r5c hb1c r1c hbd hb1d hbbd r1d r5d re hge rnb
  obtain ⟨wf, hwf⟩ : ∃ wf, wf = we.alloc (.cells #[] 5) := ⟨_, rfl⟩
  have of := own_zero we 5
  rw [← hwf] at of
  have hbf : Below we.heap.size we wf := by rw [hwf]; exact below_alloc _ _
  have hfz : Fr wb.heap.size (Value.slice (some ⟨we.heap.size, 0, none⟩) 0 0) := fr_at _ _ _ _ hbde.size
  have r1f := r1e.below hbf
  have hb1f := below_and hb1e (Nat.le_refl _) hbf
  go_upto_region 6 with fail
  rw [← hwf]
  clear hwf
  go_upto_region 8 with (first
    | (refine wl_load rfl _ _ rfl w.heap.size rfl _ _ r1f _ Tryz.underlying72 rfl (by kernel_rfl) ?_)
    | (go_at_call 94; refine (HBa.out wf hb1f).mono ?_; rintro e wg ⟨sg, C2, rfl, hsg, hbg⟩)
    | (go_at_call 93; refine (HEn.out wg sg hsg.any).mono ?_; rintro e w2 ⟨sv, rfl, R2, hb2⟩))
  have hb2f := below_and hbg (Nat.le_refl _) hb2
  have hbe2 := below_and hbf (Nat.le_refl _) hb2f
  have hbb2 := below_and hbde (Nat.le_refl _) hbe2
  have hb12 := below_and hb1e (Nat.le_refl _) hbe2
  have B2 := below_and B1 (Nat.le_refl _) hb12
  have hs2 := hs.below B2
  have r2 := r1.below hb12
  have rr2 := rr1.below hb12
  have r52 := r5e.below hbe2
  have HAT := (show Hid (∀ u, Below w2.heap.size w2 u → Row u w.heap.size 72 (mc m s) ∧ Row u (w.heap.size + 1) 72 (mc zeroM sv0) ∧ Row u b5 72 (mc m s) ∧ Below wb.heap.size wb u) from fun u hu => ⟨r2.below hu, rr2.below hu, r52.below hu, below_and hbb2 (Nat.le_refl _) hu⟩)
  have hdw : Below w2.heap.size w2 w2.drew := ⟨rfl, rfl, rfl, Nat.le_refl _, fun _ _ => rfl⟩
  obtain ⟨av, cv, rfl, hcv⟩ := R2.form
  obtain ⟨nv, hnv⟩ : ∃ nv, nv = (seaB m).length := ⟨_, rfl⟩
  rw [← hnv] at R2
  rw [← hnv]
  have HR := (show Hid (∀ u, Below w2.heap.size w2 u → Calls Tryz.prog 73 #[.int .i64 i] u fun e w' => e = .returned (.int .i64 (repL i)) ∧ Below u.heap.size u w') from fun u _ => (refReplica_any u i).mono fun e w' h => ⟨h.1, h.2 ▸ Below.refl _ _⟩)
  have HD := (show Hid (∀ u, Below w2.heap.size w2 u → Calls Tryz.prog 96 #[.agg (mc m s).toArray] u fun e w' => e = .returned (.string (domS m)) ∧ Below u.heap.size u w') from fun u hu => refDomain_any Any u m s (hs2.below hu))
  have RDL := (show Hid (∀ u, Below w2.heap.size w2 u → Rdl (u.alloc (.cells #[.slice av nv cv] 24)) (.slice (some ⟨u.heap.size, 0, none⟩) 1 1) [seaB m]) from fun u hu => rdlS_one u (.slice av nv cv) _ (R2.below hu))
  have HT := (show Hid (tot [seaB m] ≤ 4000000) by show _ ≤ _; have := seaB_len m; simp only [tot]; omega)
  have HG := (show Hid (∀ u, Below w2.heap.size w2 u → u.rangeAt w.heap.size 0 (mc m s)) from fun u hu j x hx => by rw [Nat.zero_add]; exact (r2.below hu).cell hx)
  clear r2 rr2 hs2 R2 r52 hcv hnv
  try go_simp
  refine wp_region_held_drew (S := fun u => Below w2.heap.size w2 u) (by kernel_rfl) hdw (fun hHeld => ?_)
  clear hHeld
  refine wpAnyH_take (i := 0) (v := .int .i64 i) rfl (by kernel_rfl) (by kernel_rfl) (by kernel_rfl) (fun _ _ _ h => h) (Or.inl ⟨by rfl, fun u hSu => by go_simp⟩) hdw ?_
  simp only [Act.put, List.setIfInBounds_toArray, List.set_cons_zero, List.set_cons_succ]
  refine wpAnyH_take (i := 4) (v := (.slice av nv cv)) rfl (by kernel_rfl) (by kernel_rfl) (by kernel_rfl) (fun _ _ _ h => h) (Or.inl ⟨by rfl, fun u hSu => by go_simp⟩) hdw ?_
  simp only [Act.put, List.setIfInBounds_toArray, List.set_cons_zero, List.set_cons_succ]
  refine wpAnyH_take (i := 2) (v := .agg (mc m s).toArray) rfl (by kernel_rfl) (by kernel_rfl) (by kernel_rfl) (fun _ _ _ h => h) (yieldsIf_load_mid (by rfl) _ _ rfl w.heap.size 0 rfl (mc m s) _ HG.out Tryz.underlying72 rfl (by kernel_rfl)) hdw ?_
  simp only [Act.put, List.setIfInBounds_toArray, List.set_cons_zero, List.set_cons_succ]
  refine wpAnyH_ready (rs := [1, 5]) (by kernel_rfl) (by simp) ?_
  refine AllReadyH.cons (o := _) rfl (fun K hK => ?_) ?_
  · go_simp
    refine ((HR).out w2.drew hdw).mono ?_
    rintro e u1 ⟨rfl, c1⟩
    have b1 := below_and hdw (Nat.le_refl _) c1
    try go_simp
    refine hK.out _ _ b1 (fun hHeld => ?_)
    clear hK K hHeld
    refine wpAnyH_ready (rs := [3, 5]) (by kernel_rfl) (by simp) ?_
    refine AllReadyH.cons (o := _) rfl (fun K hK => ?_) ?_
    · go_simp
      refine ((HD).out u1 b1).mono ?_
      rintro e u2 ⟨rfl, c2⟩
      have b2 := below_and b1 (Nat.le_refl _) c2
      try go_simp
      refine hK.out _ _ b2 (fun hHeld => ?_)
      clear hK K hHeld
      refine wpAnyH_ready (rs := [5]) (by kernel_rfl) (by simp) ?_
      refine AllReadyH.cons (o := _) rfl (fun K hK => ?_) AllReadyH.nil
      go_simp
      have c3 := below_alloc u2 (.cells #[.slice av nv cv] 24)
      have b3 := below_and b2 (Nat.le_refl _) c3
      have q3 := RDL.out u2 b2
      refine hK.out _ _ b3 (fun hHeld => ?_)
      clear hK K hHeld
      refine wpAnyH_ready (rs := [6]) (by kernel_rfl) (by simp) ?_
      refine AllReadyH.cons (o := _) rfl (fun K hK => ?_) AllReadyH.nil
      go_simp
      refine (refSign_any _ (repL i) (domS m) _ [seaB m] q3 (domS_size m) HT.out).mono ?_
      rintro e u9 ⟨v9, rfl, o9, f9, c9⟩
      have b9 := below_and b3 (Nat.le_refl _) c9
      have F9 := f9.mono b3.size
      try go_simp
      refine hK.out _ _ b9 (fun hHeld => ?_)
      clear hK K hHeld
      refine wpAnyH_ready (rs := [7]) (by kernel_rfl) (by simp) ?_
      refine AllReadyH.cons (o := _) rfl (fun K hK => ?_) AllReadyH.nil
      go_simp
      refine hK.out _ _ b9 (fun hHeld => ?_)
      clear hK K hHeld
      refine wpAnyH_done (by kernel_rfl) ?_ _
      have bX := b9
      have oX : Own u9 5 v9 (bc (seaS m i)) := by rw [HSS.out]; exact o9
      have fX : Fr wb.heap.size v9 := F9.mono hbb2.size
      obtain ⟨t1, t2, t3, t4⟩ := HAT.out u9 bX
      have v1X : (v9 : Value).oneCell' = true := own1 oX
      have honX : ∀ x ∈ mc { m with sig := seaS m i } { s with s := v9 }, x.oneCell' = true := fun x hx => by
        have h2 : x = v9 ∨ x ∈ mc m s := by
          simp only [mc, List.mem_cons, List.not_mem_nil, or_false] at hx ⊢
          grind
        rcases h2 with rfl | h2
        · exact v1X
        · exact hone0 x h2
      go_wp2_with (first
        | (refine wl_store rfl _ _ _ rfl (w.heap.size + 1) (mc { m with sig := seaS m i } { s with s := v9 }) rfl rfl _ _ t2y rfl (by kernel_rfl) honX ?_; intro z3 rz3 hg3)
        | (refine wl_load rfl _ _ rfl b5 rfl _ _ t3y _ Tryz.underlying72 rfl (by kernel_rfl) ?_)
        | (refine wl_set rfl _ _ _ rfl b5 17 _ rfl rfl _ _ t3z (show 17 < 23 by decide) (by kernel_rfl) v1X ?_; intro z2 ry2 hg2; have t3y : Row z2 b5 72 (mc { m with sig := seaS m i } { s with s := v9 }) := ry2.out; have t2y := t2z.grown hg2 (fun h => by injection h with h; exact hne1 h.symm))
        | (go_at_call 97; refine (HON.out u9 (below_and hb12 (Nat.le_refl _) bX)).mono ?_; rintro e z1 ⟨rfl, y1⟩; have t3z := t3.below y1; have t2z := t2.below y1)
        | (refine wl_load rfl _ _ rfl w.heap.size rfl _ _ t1 _ Tryz.underlying72 rfl (by kernel_rfl) ?_))
      have BU : Below w.heap.size w u9 := below_and B2 (Nat.le_refl _) bX
      have BZ := below_and BU (Nat.le_refl _) y1
      have hb5w : w.heap.size ≤ b5 := by have := hbb.size; omega
      have BZ2 := BZ.trans (grown_below hg2 BZ.size (fun k hk => by cases hk; exact hb5w))
      have BZ3 := BZ2.trans (grown_below hg3 BZ2.size (fun k hk => by cases hk; omega))
      have ozX : Own z1 5 v9 (bc (seaS m i)) := oX.below y1
      have oz2 := ozX.grown hg2 (fun k hk => by cases hk; exact own_row_nS t3z ozX (by decide))
      have oz3 := oz2.grown hg3 (fun k hk => by cases hk; exact own_row_nS t2y oz2 (by decide))
      refine bodyPost_ret (v := .agg (mc { m with sig := seaS m i } { s with s := v9 }).toArray) (results_cell_row rfl _ _ (w.heap.size + 1) _ _ (0, 0) _ (by rfl) rz3.out Tryz.underlying72 rfl (by kernel_rfl)) rfl ?_
      rw [HW.out]
      have hq := hs.below BZ3
      exact ⟨{ s with s := v9 }, rfl, ⟨hq.o, hq.g, hq.o', hq.g', hq.d, ⟨oz3.rd (seaS_byt m i), fun _ _ _ => trivial⟩, hq.c, hq.v, hq.n, hq.p, hq.l⟩, BZ3⟩
    refine AllReadyH.cons (o := _) rfl (fun K hK => ?_) AllReadyH.nil
    go_simp
    have c2 := below_alloc u1 (.cells #[.slice av nv cv] 24)
    have b2 := below_and b1 (Nat.le_refl _) c2
    have q2 := RDL.out u1 b1
    refine hK.out _ _ b2 (fun hHeld => ?_)
    clear hK K hHeld
    refine wpAnyH_ready (rs := [3]) (by kernel_rfl) (by simp) ?_
    refine AllReadyH.cons (o := _) rfl (fun K hK => ?_) AllReadyH.nil
    go_simp
    refine ((HD).out (u1.alloc (.cells #[.slice av nv cv] 24)) b2).mono ?_
    rintro e u3 ⟨rfl, c3⟩
    have b3 := below_and b2 (Nat.le_refl _) c3
    have q3 := q2.below c3
    try go_simp
    refine hK.out _ _ b3 (fun hHeld => ?_)
    clear hK K hHeld
    refine wpAnyH_ready (rs := [6]) (by kernel_rfl) (by simp) ?_
    refine AllReadyH.cons (o := _) rfl (fun K hK => ?_) AllReadyH.nil
    go_simp
    refine (refSign_any _ (repL i) (domS m) _ [seaB m] q3 (domS_size m) HT.out).mono ?_
    rintro e u9 ⟨v9, rfl, o9, f9, c9⟩
    have b9 := below_and b3 (Nat.le_refl _) c9
    have F9 := f9.mono b3.size
    try go_simp
    refine hK.out _ _ b9 (fun hHeld => ?_)
    clear hK K hHeld
    refine wpAnyH_ready (rs := [7]) (by kernel_rfl) (by simp) ?_
    refine AllReadyH.cons (o := _) rfl (fun K hK => ?_) AllReadyH.nil
    go_simp
    refine hK.out _ _ b9 (fun hHeld => ?_)
    clear hK K hHeld
    refine wpAnyH_done (by kernel_rfl) ?_ _
    have bX := b9
    have oX : Own u9 5 v9 (bc (seaS m i)) := by rw [HSS.out]; exact o9
    have fX : Fr wb.heap.size v9 := F9.mono hbb2.size
    obtain ⟨t1, t2, t3, t4⟩ := HAT.out u9 bX
    have v1X : (v9 : Value).oneCell' = true := own1 oX
    have honX : ∀ x ∈ mc { m with sig := seaS m i } { s with s := v9 }, x.oneCell' = true := fun x hx => by
      have h2 : x = v9 ∨ x ∈ mc m s := by
        simp only [mc, List.mem_cons, List.not_mem_nil, or_false] at hx ⊢
        grind
      rcases h2 with rfl | h2
      · exact v1X
      · exact hone0 x h2
    go_wp2_with (first
      | (refine wl_store rfl _ _ _ rfl (w.heap.size + 1) (mc { m with sig := seaS m i } { s with s := v9 }) rfl rfl _ _ t2y rfl (by kernel_rfl) honX ?_; intro z3 rz3 hg3)
      | (refine wl_load rfl _ _ rfl b5 rfl _ _ t3y _ Tryz.underlying72 rfl (by kernel_rfl) ?_)
      | (refine wl_set rfl _ _ _ rfl b5 17 _ rfl rfl _ _ t3z (show 17 < 23 by decide) (by kernel_rfl) v1X ?_; intro z2 ry2 hg2; have t3y : Row z2 b5 72 (mc { m with sig := seaS m i } { s with s := v9 }) := ry2.out; have t2y := t2z.grown hg2 (fun h => by injection h with h; exact hne1 h.symm))
      | (go_at_call 97; refine (HON.out u9 (below_and hb12 (Nat.le_refl _) bX)).mono ?_; rintro e z1 ⟨rfl, y1⟩; have t3z := t3.below y1; have t2z := t2.below y1)
      | (refine wl_load rfl _ _ rfl w.heap.size rfl _ _ t1 _ Tryz.underlying72 rfl (by kernel_rfl) ?_))
    have BU : Below w.heap.size w u9 := below_and B2 (Nat.le_refl _) bX
    have BZ := below_and BU (Nat.le_refl _) y1
    have hb5w : w.heap.size ≤ b5 := by have := hbb.size; omega
    have BZ2 := BZ.trans (grown_below hg2 BZ.size (fun k hk => by cases hk; exact hb5w))
    have BZ3 := BZ2.trans (grown_below hg3 BZ2.size (fun k hk => by cases hk; omega))
    have ozX : Own z1 5 v9 (bc (seaS m i)) := oX.below y1
    have oz2 := ozX.grown hg2 (fun k hk => by cases hk; exact own_row_nS t3z ozX (by decide))
    have oz3 := oz2.grown hg3 (fun k hk => by cases hk; exact own_row_nS t2y oz2 (by decide))
    refine bodyPost_ret (v := .agg (mc { m with sig := seaS m i } { s with s := v9 }).toArray) (results_cell_row rfl _ _ (w.heap.size + 1) _ _ (0, 0) _ (by rfl) rz3.out Tryz.underlying72 rfl (by kernel_rfl)) rfl ?_
    rw [HW.out]
    have hq := hs.below BZ3
    exact ⟨{ s with s := v9 }, rfl, ⟨hq.o, hq.g, hq.o', hq.g', hq.d, ⟨oz3.rd (seaS_byt m i), fun _ _ _ => trivial⟩, hq.c, hq.v, hq.n, hq.p, hq.l⟩, BZ3⟩
  refine AllReadyH.cons (o := _) rfl (fun K hK => ?_) AllReadyH.nil
  go_simp
  have c1 := below_alloc w2.drew (.cells #[.slice av nv cv] 24)
  have b1 := below_and hdw (Nat.le_refl _) c1
  have q1 := RDL.out w2.drew hdw
  refine hK.out _ _ b1 (fun hHeld => ?_)
  clear hK K hHeld
  refine wpAnyH_ready (rs := [1]) (by kernel_rfl) (by simp) ?_
  refine AllReadyH.cons (o := _) rfl (fun K hK => ?_) AllReadyH.nil
  go_simp
  refine ((HR).out (w2.drew.alloc (.cells #[.slice av nv cv] 24)) b1).mono ?_
  rintro e u2 ⟨rfl, c2⟩
  have b2 := below_and b1 (Nat.le_refl _) c2
  have q2 := q1.below c2
  try go_simp
  refine hK.out _ _ b2 (fun hHeld => ?_)
  clear hK K hHeld
  refine wpAnyH_ready (rs := [3]) (by kernel_rfl) (by simp) ?_
  refine AllReadyH.cons (o := _) rfl (fun K hK => ?_) AllReadyH.nil
  go_simp
  refine ((HD).out u2 b2).mono ?_
  rintro e u3 ⟨rfl, c3⟩
  have b3 := below_and b2 (Nat.le_refl _) c3
  have q3 := q2.below c3
  try go_simp
  refine hK.out _ _ b3 (fun hHeld => ?_)
  clear hK K hHeld
  refine wpAnyH_ready (rs := [6]) (by kernel_rfl) (by simp) ?_
  refine AllReadyH.cons (o := _) rfl (fun K hK => ?_) AllReadyH.nil
  go_simp
  refine (refSign_any _ (repL i) (domS m) _ [seaB m] q3 (domS_size m) HT.out).mono ?_
  rintro e u9 ⟨v9, rfl, o9, f9, c9⟩
  have b9 := below_and b3 (Nat.le_refl _) c9
  have F9 := f9.mono b3.size
  try go_simp
  refine hK.out _ _ b9 (fun hHeld => ?_)
  clear hK K hHeld
  refine wpAnyH_ready (rs := [7]) (by kernel_rfl) (by simp) ?_
  refine AllReadyH.cons (o := _) rfl (fun K hK => ?_) AllReadyH.nil
  go_simp
  refine hK.out _ _ b9 (fun hHeld => ?_)
  clear hK K hHeld
  refine wpAnyH_done (by kernel_rfl) ?_ _
  have bX := b9
  have oX : Own u9 5 v9 (bc (seaS m i)) := by rw [HSS.out]; exact o9
  have fX : Fr wb.heap.size v9 := F9.mono hbb2.size
  obtain ⟨t1, t2, t3, t4⟩ := HAT.out u9 bX
  have v1X : (v9 : Value).oneCell' = true := own1 oX
  have honX : ∀ x ∈ mc { m with sig := seaS m i } { s with s := v9 }, x.oneCell' = true := fun x hx => by
    have h2 : x = v9 ∨ x ∈ mc m s := by
      simp only [mc, List.mem_cons, List.not_mem_nil, or_false] at hx ⊢
      grind
    rcases h2 with rfl | h2
    · exact v1X
    · exact hone0 x h2
  go_wp2_with (first
    | (refine wl_store rfl _ _ _ rfl (w.heap.size + 1) (mc { m with sig := seaS m i } { s with s := v9 }) rfl rfl _ _ t2y rfl (by kernel_rfl) honX ?_; intro z3 rz3 hg3)
    | (refine wl_load rfl _ _ rfl b5 rfl _ _ t3y _ Tryz.underlying72 rfl (by kernel_rfl) ?_)
    | (refine wl_set rfl _ _ _ rfl b5 17 _ rfl rfl _ _ t3z (show 17 < 23 by decide) (by kernel_rfl) v1X ?_; intro z2 ry2 hg2; have t3y : Row z2 b5 72 (mc { m with sig := seaS m i } { s with s := v9 }) := ry2.out; have t2y := t2z.grown hg2 (fun h => by injection h with h; exact hne1 h.symm))
    | (go_at_call 97; refine (HON.out u9 (below_and hb12 (Nat.le_refl _) bX)).mono ?_; rintro e z1 ⟨rfl, y1⟩; have t3z := t3.below y1; have t2z := t2.below y1)
    | (refine wl_load rfl _ _ rfl w.heap.size rfl _ _ t1 _ Tryz.underlying72 rfl (by kernel_rfl) ?_))
  have BU : Below w.heap.size w u9 := below_and B2 (Nat.le_refl _) bX
  have BZ := below_and BU (Nat.le_refl _) y1
  have hb5w : w.heap.size ≤ b5 := by have := hbb.size; omega
  have BZ2 := BZ.trans (grown_below hg2 BZ.size (fun k hk => by cases hk; exact hb5w))
  have BZ3 := BZ2.trans (grown_below hg3 BZ2.size (fun k hk => by cases hk; omega))
  have ozX : Own z1 5 v9 (bc (seaS m i)) := oX.below y1
  have oz2 := ozX.grown hg2 (fun k hk => by cases hk; exact own_row_nS t3z ozX (by decide))
  have oz3 := oz2.grown hg3 (fun k hk => by cases hk; exact own_row_nS t2y oz2 (by decide))
  refine bodyPost_ret (v := .agg (mc { m with sig := seaS m i } { s with s := v9 }).toArray) (results_cell_row rfl _ _ (w.heap.size + 1) _ _ (0, 0) _ (by rfl) rz3.out Tryz.underlying72 rfl (by kernel_rfl)) rfl ?_
  rw [HW.out]
  have hq := hs.below BZ3
  exact ⟨{ s with s := v9 }, rfl, ⟨hq.o, hq.g, hq.o', hq.g', hq.d, ⟨oz3.rd (seaS_byt m i), fun _ _ _ => trivial⟩, hq.c, hq.v, hq.n, hq.p, hq.l⟩, BZ3⟩
set_option maxRecDepth 10000 in
set_option maxHeartbeats 16000000 in
theorem refSeal_yes (w : World) (m : PMsg) (s : SV) (i : Int) (hs : SOk Any w m s) (hz : szM m) (hb : bM m ≤ 1060000) (ho : oneM m = true) : Calls Tryz.prog 65 #[.agg (mc m s).toArray, .int .i64 i] w fun e w' => ∃ s', e = .returned (.agg (mc (wsM m (seaS m i)) s').toArray) ∧ SOk Any w' (wsM m (seaS m i)) s' ∧ Below w.heap.size w w' := by
  obtain ⟨w1, hw1⟩ : ∃ w1, w1 = (w.alloc (.cells (mc m s).toArray 72)).alloc (.cells #[.int .i64 0, .int .i64 0, .int .i64 0, .int .i64 0, .int .i64 0, .int .i64 0, .int .i64 0, .int .i64 0, .int .i64 0, .int .i64 0, .slice none 0 0, .slice none 0 0, .int .i64 0, .int .i64 0, .slice none 0 0, .slice none 0 0, .slice none 0 0, .slice none 0 0, .slice none 0 0, .slice none 0 0, .slice none 0 0, .slice none 0 0, .slice none 0 0] 72) := ⟨_, rfl⟩
  have r1 : Row w1 w.heap.size 72 (mc m s) := by rw [hw1]; exact rowA (Row.new w _ _) _
  have rr1 : Row w1 (w.heap.size + 1) 72 (mc zeroM sv0) := by
    have h1 : (w.alloc (.cells (mc m s).toArray 72)).heap.size = w.heap.size + 1 := by simp
    rw [hw1, ← h1]
    exact Row.new (w.alloc (.cells (mc m s).toArray 72)) 72 (mc zeroM sv0)
  have B1 : Below w.heap.size w w1 := by rw [hw1]; exact ((Below.refl _ w).alloc (Nat.le_refl _) _).alloc (by simp) _
  have hz2 : w.heap.size + 2 ≤ w1.heap.size := by rw [hw1]; simp
  have HBa := (show Hid (∀ u, Below w1.heap.size w1 u → Calls Tryz.prog 94 #[.agg (mc m s).toArray] u fun e w' => ∃ s' C, e = .returned (.agg (mc (wsM m []) s').toArray) ∧ SOkL u.heap.size C w' (wsM m []) s' ∧ Below u.heap.size u w') from fun u hu => refBare_any u m s (hs.below (below_and B1 (Nat.le_refl _) hu)) hz)
  have HON := (show Hid (∀ u, Below w1.heap.size w1 u → Calls Tryz.prog 97 #[.agg (mc m s).toArray] u fun e w' => e = .returned (.bool (oneM m)) ∧ Below u.heap.size u w') from fun u hu => refOne_any Any u m s (hs.below (below_and B1 (Nat.le_refl _) hu)))
  have hen : ∀ u s', SOk Any u (wsM m []) s' → Calls Tryz.prog 93 #[.agg (mc (wsM m []) s').toArray] u fun e w' => ∃ v', e = .returned (.tuple #[v', .int .i64 (seaE m)]) ∧ Rd w' v' (seaB m) ∧ Below u.heap.size u w' := fun u s' h => refEncode_any u (wsM m []) s' h (bM_ws hb)
  have hone0 := hs.one
  rw [ho] at HON
  obtain ⟨hk, r, hr⟩ := oneM_yes ho
  have HW := (show Hid (wsM m (seaS m i) = { m with reps := [repSig r (seaS m i)] }) by show _ = _; unfold wsM; rw [if_pos ho, hr]; rfl)
  have HWN := (show Hid (wsM m [] = { m with reps := [repSig r []] }) by show _ = _; unfold wsM; rw [if_pos ho, hr]; rfl)
  have HRP := (show Hid ((wsM m []).reps = [repSig r []]) by show _ = _; rw [HWN.out])
  clear ho
  by_cases h0 : seaE m = 0
  case neg =>
    have HS := (show Hid (seaS m i = []) by show _ = _; unfold seaS; rw [if_neg h0])
    obtain ⟨E, hE⟩ : ∃ E, E = seaE m := ⟨_, rfl⟩
    rw [← hE] at hen h0
    have h0' : (E == 0) = false := by simp [h0]
    have HEn := (show Hid (∀ u s', SOk Any u (wsM m []) s' → Calls Tryz.prog 93 #[.agg (mc (wsM m []) s').toArray] u fun e w' => ∃ v', e = .returned (.tuple #[v', .int .i64 E]) ∧ Rd w' v' (seaB m) ∧ Below u.heap.size u w') from hen)
    clear hE hen
    go_enter Tryz.func65, Tryz.ntmps65
    go_upto_region 1 with fail
    rw [← hw1]
    clear hw1
    go_upto_region 2 with (first
      | (refine wl_load rfl _ _ rfl w.heap.size rfl _ _ r1 _ Tryz.underlying72 rfl (by kernel_rfl) ?_)
      | (go_at_call 94; refine (HBa.out w1 (Below.refl _ _)).mono ?_; rintro e wb ⟨sb, C, rfl, hsb, hbb⟩; have honb := hsb.any.one; have rnb := Row.new wb 72 (mc zeroM sv0))
      | (refine wl_store rfl _ _ _ rfl wb.heap.size (mc (wsM m []) sb) rfl rfl _ _ rnb rfl (by kernel_rfl) honb ?_; intro wc rc hgc))
    have r5c := rc.out
    have hbc : Below wb.heap.size wb wc := (below_alloc wb (.cells (mc zeroM sv0).toArray 72)).trans (grown_below hgc (by simp) (fun k hk => by cases hk; exact Nat.le_refl _))
    obtain ⟨b5, hb5⟩ : ∃ b5, b5 = wb.heap.size := ⟨_, rfl⟩
    rw [← hb5] at r5c ⊢
    have hb5g : wb.heap.size ≤ b5 := by omega
    have hb1c := below_and hbb (Nat.le_refl _) hbc
    have r1c := r1.below hb1c
    have hne0 : w.heap.size ≠ b5 := by have := hbb.size; omega
    have hne1 : w.heap.size + 1 ≠ b5 := by have := hbb.size; omega
    clear hb5
    go_upto_region 4 with (first
      | (refine wl_load rfl _ _ rfl w.heap.size rfl _ _ r1c _ Tryz.underlying72 rfl (by kernel_rfl) ?_)
      | (go_at_call 97; refine (HON.out wc hb1c).mono ?_; rintro e wd ⟨rfl, hbd⟩))
    have hb1d := below_and hb1c (Nat.le_refl _) hbd
    have hbbd := below_and hbc (Nat.le_refl _) hbd
    have r1d := r1.below hb1d
    have r5d := r5c.below hbd
    have c17 := r1d.cell (j := 17) rfl
    go_upto_region 5 with (refine wl_set rfl _ _ _ rfl b5 17 _ rfl rfl _ _ r5d (show 17 < 23 by decide) (by kernel_rfl) hs.s.one ?_; intro we re hge)
    have r5e : Row we b5 72 (mc (wsM m []) { sb with s := s.s }) := re.out
    have OUT := (show Hid (∀ x ∈ mc (wsM m []) { sb with s := s.s }, x.oneCell' = true) from fun x hx => by
      have h2 : x = s.s ∨ x ∈ mc (wsM m []) sb := by
        simp only [mc, List.mem_cons, List.not_mem_nil, or_false] at hx ⊢
        grind
      rcases h2 with rfl | h2
      · exact hs.s.one
      · exact honb x h2)
    have hbde : Below wb.heap.size wb we := hbbd.trans (grown_below hge hbbd.size (fun k hk => by cases hk; omega))
    have hb1e : Below w1.heap.size w1 we := hbb.trans (hbde.mono hbb.size)
    have r1e := r1.below hb1e
    have rr1e := rr1.below hb1e
    clear rc hgc hbc r5c hb1c r1c hbd hb1d hbbd r1d r5d re hge rnb
    obtain ⟨wf, hwf⟩ : ∃ wf, wf = we.alloc (.cells #[] 5) := ⟨_, rfl⟩
    have of := own_zero we 5
    rw [← hwf] at of
    have hbf : Below we.heap.size we wf := by rw [hwf]; exact below_alloc _ _
    have hfz : Fr wb.heap.size (Value.slice (some ⟨we.heap.size, 0, none⟩) 0 0) := fr_at _ _ _ _ hbde.size
    have r1f := r1e.below hbf
    have hb1f := below_and hb1e (Nat.le_refl _) hbf
    go_upto_region 6 with fail
    rw [← hwf]
    clear hwf
    go_upto_region 9 with (first
      | (refine wl_load rfl _ _ rfl w.heap.size rfl _ _ r1f _ Tryz.underlying72 rfl (by kernel_rfl) ?_)
      | (go_at_call 94; refine (HBa.out wf hb1f).mono ?_; rintro e wg ⟨sg, C2, rfl, hsg, hbg⟩)
      | (go_at_call 93; refine (HEn.out wg sg hsg.any).mono ?_; rintro e w2 ⟨sv, rfl, R2, hb2⟩))
    have hb2f := below_and hbg (Nat.le_refl _) hb2
    have hbe2 := below_and hbf (Nat.le_refl _) hb2f
    have hbb2 := below_and hbde (Nat.le_refl _) hbe2
    have hb12 := below_and hb1e (Nat.le_refl _) hbe2
    have B2 := below_and B1 (Nat.le_refl _) hb12
    have hs2 := hs.below B2
    have r2 := r1.below hb12
    have rr2 := rr1.below hb12
    have r52 := r5e.below hbe2
    have HAT := (show Hid (∀ u, Below w2.heap.size w2 u → Row u w.heap.size 72 (mc m s) ∧ Row u (w.heap.size + 1) 72 (mc zeroM sv0) ∧ Row u b5 72 (mc (wsM m []) { sb with s := s.s }) ∧ Below wb.heap.size wb u) from fun u hu => ⟨r2.below hu, rr2.below hu, r52.below hu, below_and hbb2 (Nat.le_refl _) hu⟩)
    have bX : Below w2.heap.size w2 w2 := Below.refl _ _
    have oX : Own w2 5 (Value.slice (some ⟨we.heap.size, 0, none⟩) 0 0) (bc (seaS m i)) := by rw [HS.out]; exact of.below hb2f
    have fX := hfz
    obtain ⟨t1, t2, t3, t4⟩ := HAT.out w2 bX
    have hlx := (hsb.below t4).l
    rw [HRP.out] at hlx
    obtain ⟨bl, cap, cur, ev, hc1, hc2, hbl, rlx, hcl, hset⟩ := lb_sig hlx
    have hbll := hlx.lt bl (by rw [ev]; rfl)
    have HSET := (show Hid _ from hset)
    have HEV := (show Hid (sb.l = .slice (some ⟨bl, 0, none⟩) 1 cap) from ev)
    have HBL := (show Hid (C ≤ bl) from hbl)
    clear hlx hset ev hbl
    go_upto_region 10 with (first
      | (refine wl_load rfl _ _ rfl w.heap.size rfl _ _ t1 _ Tryz.underlying72 rfl (by kernel_rfl) ?_)
      | (go_at_call 97; refine (HON.out w2 (below_and hb12 (Nat.le_refl _) bX)).mono ?_; rintro e z1 ⟨rfl, y1⟩))
    have t3z := t3.below y1
    have t2z := t2.below y1
    have rlz := rlx.below y1
    have t4z := below_and t4 (Nat.le_refl _) y1
    rw [show mc (wsM m []) { sb with s := s.s } = mc (wsM m []) { sb with s := s.s, l := .slice (some ⟨bl, 0, none⟩) 1 cap } from by have := HEV.out; simp only [mc, this]] at t3z
    have c22 := t3z.cell (j := 22) rfl
    have honX : ∀ x ∈ mc (wsM m []) { sb with s := s.s, l := .slice (some ⟨bl, 0, none⟩) 1 cap }, x.oneCell' = true := by
      have h := OUT.out
      rwa [show mc (wsM m []) { sb with s := s.s } = mc (wsM m []) { sb with s := s.s, l := .slice (some ⟨bl, 0, none⟩) 1 cap } from by have := HEV.out; simp only [mc, this]] at h
    have v1X : ((Value.slice (some ⟨we.heap.size, 0, none⟩) 0 0) : Value).oneCell' = true := own1 oX
    have hxb : bl ≠ b5 := rlz.apart t3z (by decide)
    have hx1 : bl ≠ w.heap.size + 1 := rlz.apart t2z (by decide)
    go_wp2_with (first
      | (refine wl_store rfl _ _ _ rfl (w.heap.size + 1) (mc (wsM m []) { sb with s := s.s, l := .slice (some ⟨bl, 0, none⟩) 1 cap }) rfl rfl _ _ t2y rfl (by kernel_rfl) honX ?_; intro z3 rz3 hg3)
      | (refine wl_load rfl _ _ rfl b5 rfl _ _ t3y _ Tryz.underlying72 rfl (by kernel_rfl) ?_)
      | (refine wl_set rfl _ _ _ rfl bl 7 _ rfl rfl _ _ rlz hcl (by kernel_rfl) v1X ?_; intro z2 rl2 hg2; have t3y := t3z.grown hg2 (fun h => by injection h with h; exact hxb h); have t2y := t2z.grown hg2 (fun h => by injection h with h; exact hx1 h)))
    have hsz := hsb.below t4z
    have ozX : Own z1 5 (Value.slice (some ⟨we.heap.size, 0, none⟩) 0 0) (bc (seaS m i)) := oX.below y1
    have nvb : ((Value.slice (some ⟨we.heap.size, 0, none⟩) 0 0) : Value).ownBlock ≠ some bl := own_row_nS rlz ozX (by decide)
    have oz2 := ozX.grown hg2 (fun k hk => by cases hk; exact nvb)
    have hCb : C ≤ wb.heap.size := hsb.lt
    have hlz := HSET.out
    have hl1 := (hsb.below t4z).l
    rw [HRP.out] at hl1
    have rtX : RT (fun b => C ≤ b ∧ b ≠ bl) z2 (Value.slice (some ⟨we.heap.size, 0, none⟩) 0 0) (seaS m i) := ⟨oz2.rd (seaS_byt m i), fun _ k hk => ⟨Nat.le_trans hCb (fX k hk), fun e => nvb (by rw [hk, e])⟩⟩
    obtain ⟨bl', cap', cur', ev', _, _, hbl', rl', _, hset'⟩ := lb_sig hl1
    have hbb' : bl' = bl := by have h9 := HEV.out; rw [ev'] at h9; injection h9 with h9; injection h9 with h9; injection h9
    subst hbb'
    have hcc : cur' = cur := by have h8 := rl'; unfold Row at h8; have h9 := rlz; unfold Row at h9; rw [h8] at h9; simp at h9; exact h9
    subst hcc
    have hl2 := hset' z2 (Value.slice (some ⟨we.heap.size, 0, none⟩) 0 0) (seaS m i) rl2.out hg2 rtX
    have hs2' := hsz.rep hg2 hbl' hl2
    have B1z : w1.heap.size ≤ z2.heap.size := Nat.le_trans hbb.size (Nat.le_trans t4z.size hg2.size)
    have hs3 := hs2'.grown hg3 (by omega)
    have BZ : Below w.heap.size w z1 := below_and B1 (Nat.le_refl _) (hbb.trans (t4z.mono hbb.size))
    have BZ2 := BZ.trans (grown_below hg2 BZ.size (fun k hk => by cases hk; have := hsb.le; omega))
    have BZ3 := BZ2.trans (grown_below hg3 BZ2.size (fun k hk => by cases hk; omega))
    refine bodyPost_ret (v := .agg (mc (wsM m []) { sb with s := s.s, l := .slice (some ⟨bl', 0, none⟩) 1 cap }).toArray) (results_cell_row rfl _ _ (w.heap.size + 1) _ _ (0, 0) _ (by rfl) rz3.out Tryz.underlying72 rfl (by kernel_rfl)) rfl ?_
    rw [HW.out]
    have hq : SOk Any z3 { m with reps := [repSig r (seaS m i)] } sb := by have h := hs3.any; rw [HWN.out] at h; exact h
    have hss := hs.s.mv (Mv.below BZ3)
    refine ⟨{ sb with s := s.s }, ?_, ⟨hq.o, hq.g, hq.o', hq.g', hq.d, ?_, hq.c, hq.v, hq.n, hq.p, ?_⟩, BZ3⟩
    · have h9 := HEV.out
      rw [HWN.out]
      simp only [mc, h9]
    · exact hss
    · exact hq.l
  have HSS := (show Hid (seaS m i = signL (repL i) (sL (domS m)) [seaB m]) by show _ = _; unfold seaS; rw [if_pos h0])
  rw [h0] at hen
  have HEn := (show Hid (∀ u s', SOk Any u (wsM m []) s' → Calls Tryz.prog 93 #[.agg (mc (wsM m []) s').toArray] u fun e w' => ∃ v', e = .returned (.tuple #[v', .int .i64 0]) ∧ Rd w' v' (seaB m) ∧ Below u.heap.size u w') from hen)
  clear h0 hen
  go_enter Tryz.func65, Tryz.ntmps65
  go_upto_region 1 with fail
  rw [← hw1]
  clear hw1
  go_upto_region 2 with (first
    | (refine wl_load rfl _ _ rfl w.heap.size rfl _ _ r1 _ Tryz.underlying72 rfl (by kernel_rfl) ?_)
    | (go_at_call 94; refine (HBa.out w1 (Below.refl _ _)).mono ?_; rintro e wb ⟨sb, C, rfl, hsb, hbb⟩; have honb := hsb.any.one; have rnb := Row.new wb 72 (mc zeroM sv0))
    | (refine wl_store rfl _ _ _ rfl wb.heap.size (mc (wsM m []) sb) rfl rfl _ _ rnb rfl (by kernel_rfl) honb ?_; intro wc rc hgc))
  have r5c := rc.out
  have hbc : Below wb.heap.size wb wc := (below_alloc wb (.cells (mc zeroM sv0).toArray 72)).trans (grown_below hgc (by simp) (fun k hk => by cases hk; exact Nat.le_refl _))
  obtain ⟨b5, hb5⟩ : ∃ b5, b5 = wb.heap.size := ⟨_, rfl⟩
  rw [← hb5] at r5c ⊢
  have hb5g : wb.heap.size ≤ b5 := by omega
  have hb1c := below_and hbb (Nat.le_refl _) hbc
  have r1c := r1.below hb1c
  have hne0 : w.heap.size ≠ b5 := by have := hbb.size; omega
  have hne1 : w.heap.size + 1 ≠ b5 := by have := hbb.size; omega
  clear hb5
  go_upto_region 4 with (first
    | (refine wl_load rfl _ _ rfl w.heap.size rfl _ _ r1c _ Tryz.underlying72 rfl (by kernel_rfl) ?_)
    | (go_at_call 97; refine (HON.out wc hb1c).mono ?_; rintro e wd ⟨rfl, hbd⟩))
  have hb1d := below_and hb1c (Nat.le_refl _) hbd
  have hbbd := below_and hbc (Nat.le_refl _) hbd
  have r1d := r1.below hb1d
  have r5d := r5c.below hbd
  have c17 := r1d.cell (j := 17) rfl
  go_upto_region 5 with (refine wl_set rfl _ _ _ rfl b5 17 _ rfl rfl _ _ r5d (show 17 < 23 by decide) (by kernel_rfl) hs.s.one ?_; intro we re hge)
  have r5e : Row we b5 72 (mc (wsM m []) { sb with s := s.s }) := re.out
  have OUT := (show Hid (∀ x ∈ mc (wsM m []) { sb with s := s.s }, x.oneCell' = true) from fun x hx => by
    have h2 : x = s.s ∨ x ∈ mc (wsM m []) sb := by
      simp only [mc, List.mem_cons, List.not_mem_nil, or_false] at hx ⊢
      grind
    rcases h2 with rfl | h2
    · exact hs.s.one
    · exact honb x h2)
  have hbde : Below wb.heap.size wb we := hbbd.trans (grown_below hge hbbd.size (fun k hk => by cases hk; omega))
  have hb1e : Below w1.heap.size w1 we := hbb.trans (hbde.mono hbb.size)
  have r1e := r1.below hb1e
  have rr1e := rr1.below hb1e
  clear rc hgc hbc r5c hb1c r1c hbd hb1d hbbd r1d r5d re hge rnb
  obtain ⟨wf, hwf⟩ : ∃ wf, wf = we.alloc (.cells #[] 5) := ⟨_, rfl⟩
  have of := own_zero we 5
  rw [← hwf] at of
  have hbf : Below we.heap.size we wf := by rw [hwf]; exact below_alloc _ _
  have hfz : Fr wb.heap.size (Value.slice (some ⟨we.heap.size, 0, none⟩) 0 0) := fr_at _ _ _ _ hbde.size
  have r1f := r1e.below hbf
  have hb1f := below_and hb1e (Nat.le_refl _) hbf
  go_upto_region 6 with fail
  rw [← hwf]
  clear hwf
  go_upto_region 8 with (first
    | (refine wl_load rfl _ _ rfl w.heap.size rfl _ _ r1f _ Tryz.underlying72 rfl (by kernel_rfl) ?_)
    | (go_at_call 94; refine (HBa.out wf hb1f).mono ?_; rintro e wg ⟨sg, C2, rfl, hsg, hbg⟩)
    | (go_at_call 93; refine (HEn.out wg sg hsg.any).mono ?_; rintro e w2 ⟨sv, rfl, R2, hb2⟩))
  have hb2f := below_and hbg (Nat.le_refl _) hb2
  have hbe2 := below_and hbf (Nat.le_refl _) hb2f
  have hbb2 := below_and hbde (Nat.le_refl _) hbe2
  have hb12 := below_and hb1e (Nat.le_refl _) hbe2
  have B2 := below_and B1 (Nat.le_refl _) hb12
  have hs2 := hs.below B2
  have r2 := r1.below hb12
  have rr2 := rr1.below hb12
  have r52 := r5e.below hbe2
  have HAT := (show Hid (∀ u, Below w2.heap.size w2 u → Row u w.heap.size 72 (mc m s) ∧ Row u (w.heap.size + 1) 72 (mc zeroM sv0) ∧ Row u b5 72 (mc (wsM m []) { sb with s := s.s }) ∧ Below wb.heap.size wb u) from fun u hu => ⟨r2.below hu, rr2.below hu, r52.below hu, below_and hbb2 (Nat.le_refl _) hu⟩)
  have hdw : Below w2.heap.size w2 w2.drew := ⟨rfl, rfl, rfl, Nat.le_refl _, fun _ _ => rfl⟩
  obtain ⟨av, cv, rfl, hcv⟩ := R2.form
  obtain ⟨nv, hnv⟩ : ∃ nv, nv = (seaB m).length := ⟨_, rfl⟩
  rw [← hnv] at R2
  rw [← hnv]
  have HR := (show Hid (∀ u, Below w2.heap.size w2 u → Calls Tryz.prog 73 #[.int .i64 i] u fun e w' => e = .returned (.int .i64 (repL i)) ∧ Below u.heap.size u w') from fun u _ => (refReplica_any u i).mono fun e w' h => ⟨h.1, h.2 ▸ Below.refl _ _⟩)
  have HD := (show Hid (∀ u, Below w2.heap.size w2 u → Calls Tryz.prog 96 #[.agg (mc m s).toArray] u fun e w' => e = .returned (.string (domS m)) ∧ Below u.heap.size u w') from fun u hu => refDomain_any Any u m s (hs2.below hu))
  have RDL := (show Hid (∀ u, Below w2.heap.size w2 u → Rdl (u.alloc (.cells #[.slice av nv cv] 24)) (.slice (some ⟨u.heap.size, 0, none⟩) 1 1) [seaB m]) from fun u hu => rdlS_one u (.slice av nv cv) _ (R2.below hu))
  have HT := (show Hid (tot [seaB m] ≤ 4000000) by show _ ≤ _; have := seaB_len m; simp only [tot]; omega)
  have HG := (show Hid (∀ u, Below w2.heap.size w2 u → u.rangeAt w.heap.size 0 (mc m s)) from fun u hu j x hx => by rw [Nat.zero_add]; exact (r2.below hu).cell hx)
  clear r2 rr2 hs2 R2 r52 hcv hnv
  try go_simp
  refine wp_region_held_drew (S := fun u => Below w2.heap.size w2 u) (by kernel_rfl) hdw (fun hHeld => ?_)
  clear hHeld
  refine wpAnyH_take (i := 0) (v := .int .i64 i) rfl (by kernel_rfl) (by kernel_rfl) (by kernel_rfl) (fun _ _ _ h => h) (Or.inl ⟨by rfl, fun u hSu => by go_simp⟩) hdw ?_
  simp only [Act.put, List.setIfInBounds_toArray, List.set_cons_zero, List.set_cons_succ]
  refine wpAnyH_take (i := 4) (v := (.slice av nv cv)) rfl (by kernel_rfl) (by kernel_rfl) (by kernel_rfl) (fun _ _ _ h => h) (Or.inl ⟨by rfl, fun u hSu => by go_simp⟩) hdw ?_
  simp only [Act.put, List.setIfInBounds_toArray, List.set_cons_zero, List.set_cons_succ]
  refine wpAnyH_take (i := 2) (v := .agg (mc m s).toArray) rfl (by kernel_rfl) (by kernel_rfl) (by kernel_rfl) (fun _ _ _ h => h) (yieldsIf_load_mid (by rfl) _ _ rfl w.heap.size 0 rfl (mc m s) _ HG.out Tryz.underlying72 rfl (by kernel_rfl)) hdw ?_
  simp only [Act.put, List.setIfInBounds_toArray, List.set_cons_zero, List.set_cons_succ]
  refine wpAnyH_ready (rs := [1, 5]) (by kernel_rfl) (by simp) ?_
  refine AllReadyH.cons (o := _) rfl (fun K hK => ?_) ?_
  · go_simp
    refine ((HR).out w2.drew hdw).mono ?_
    rintro e u1 ⟨rfl, c1⟩
    have b1 := below_and hdw (Nat.le_refl _) c1
    try go_simp
    refine hK.out _ _ b1 (fun hHeld => ?_)
    clear hK K hHeld
    refine wpAnyH_ready (rs := [3, 5]) (by kernel_rfl) (by simp) ?_
    refine AllReadyH.cons (o := _) rfl (fun K hK => ?_) ?_
    · go_simp
      refine ((HD).out u1 b1).mono ?_
      rintro e u2 ⟨rfl, c2⟩
      have b2 := below_and b1 (Nat.le_refl _) c2
      try go_simp
      refine hK.out _ _ b2 (fun hHeld => ?_)
      clear hK K hHeld
      refine wpAnyH_ready (rs := [5]) (by kernel_rfl) (by simp) ?_
      refine AllReadyH.cons (o := _) rfl (fun K hK => ?_) AllReadyH.nil
      go_simp
      have c3 := below_alloc u2 (.cells #[.slice av nv cv] 24)
      have b3 := below_and b2 (Nat.le_refl _) c3
      have q3 := RDL.out u2 b2
      refine hK.out _ _ b3 (fun hHeld => ?_)
      clear hK K hHeld
      refine wpAnyH_ready (rs := [6]) (by kernel_rfl) (by simp) ?_
      refine AllReadyH.cons (o := _) rfl (fun K hK => ?_) AllReadyH.nil
      go_simp
      refine (refSign_any _ (repL i) (domS m) _ [seaB m] q3 (domS_size m) HT.out).mono ?_
      rintro e u9 ⟨v9, rfl, o9, f9, c9⟩
      have b9 := below_and b3 (Nat.le_refl _) c9
      have F9 := f9.mono b3.size
      try go_simp
      refine hK.out _ _ b9 (fun hHeld => ?_)
      clear hK K hHeld
      refine wpAnyH_ready (rs := [7]) (by kernel_rfl) (by simp) ?_
      refine AllReadyH.cons (o := _) rfl (fun K hK => ?_) AllReadyH.nil
      go_simp
      refine hK.out _ _ b9 (fun hHeld => ?_)
      clear hK K hHeld
      refine wpAnyH_done (by kernel_rfl) ?_ _
      have bX := b9
      have oX : Own u9 5 v9 (bc (seaS m i)) := by rw [HSS.out]; exact o9
      have fX : Fr wb.heap.size v9 := F9.mono hbb2.size
      obtain ⟨t1, t2, t3, t4⟩ := HAT.out u9 bX
      have hlx := (hsb.below t4).l
      rw [HRP.out] at hlx
      obtain ⟨bl, cap, cur, ev, hc1, hc2, hbl, rlx, hcl, hset⟩ := lb_sig hlx
      have hbll := hlx.lt bl (by rw [ev]; rfl)
      have HSET := (show Hid _ from hset)
      have HEV := (show Hid (sb.l = .slice (some ⟨bl, 0, none⟩) 1 cap) from ev)
      have HBL := (show Hid (C ≤ bl) from hbl)
      clear hlx hset ev hbl
      go_upto_region 10 with (first
        | (refine wl_load rfl _ _ rfl w.heap.size rfl _ _ t1 _ Tryz.underlying72 rfl (by kernel_rfl) ?_)
        | (go_at_call 97; refine (HON.out u9 (below_and hb12 (Nat.le_refl _) bX)).mono ?_; rintro e z1 ⟨rfl, y1⟩))
      have t3z := t3.below y1
      have t2z := t2.below y1
      have rlz := rlx.below y1
      have t4z := below_and t4 (Nat.le_refl _) y1
      rw [show mc (wsM m []) { sb with s := s.s } = mc (wsM m []) { sb with s := s.s, l := .slice (some ⟨bl, 0, none⟩) 1 cap } from by have := HEV.out; simp only [mc, this]] at t3z
      have c22 := t3z.cell (j := 22) rfl
      have honX : ∀ x ∈ mc (wsM m []) { sb with s := s.s, l := .slice (some ⟨bl, 0, none⟩) 1 cap }, x.oneCell' = true := by
        have h := OUT.out
        rwa [show mc (wsM m []) { sb with s := s.s } = mc (wsM m []) { sb with s := s.s, l := .slice (some ⟨bl, 0, none⟩) 1 cap } from by have := HEV.out; simp only [mc, this]] at h
      have v1X : (v9 : Value).oneCell' = true := own1 oX
      have hxb : bl ≠ b5 := rlz.apart t3z (by decide)
      have hx1 : bl ≠ w.heap.size + 1 := rlz.apart t2z (by decide)
      go_wp2_with (first
        | (refine wl_store rfl _ _ _ rfl (w.heap.size + 1) (mc (wsM m []) { sb with s := s.s, l := .slice (some ⟨bl, 0, none⟩) 1 cap }) rfl rfl _ _ t2y rfl (by kernel_rfl) honX ?_; intro z3 rz3 hg3)
        | (refine wl_load rfl _ _ rfl b5 rfl _ _ t3y _ Tryz.underlying72 rfl (by kernel_rfl) ?_)
        | (refine wl_set rfl _ _ _ rfl bl 7 _ rfl rfl _ _ rlz hcl (by kernel_rfl) v1X ?_; intro z2 rl2 hg2; have t3y := t3z.grown hg2 (fun h => by injection h with h; exact hxb h); have t2y := t2z.grown hg2 (fun h => by injection h with h; exact hx1 h)))
      have hsz := hsb.below t4z
      have ozX : Own z1 5 v9 (bc (seaS m i)) := oX.below y1
      have nvb : (v9 : Value).ownBlock ≠ some bl := own_row_nS rlz ozX (by decide)
      have oz2 := ozX.grown hg2 (fun k hk => by cases hk; exact nvb)
      have hCb : C ≤ wb.heap.size := hsb.lt
      have hlz := HSET.out
      have hl1 := (hsb.below t4z).l
      rw [HRP.out] at hl1
      have rtX : RT (fun b => C ≤ b ∧ b ≠ bl) z2 v9 (seaS m i) := ⟨oz2.rd (seaS_byt m i), fun _ k hk => ⟨Nat.le_trans hCb (fX k hk), fun e => nvb (by rw [hk, e])⟩⟩
      obtain ⟨bl', cap', cur', ev', _, _, hbl', rl', _, hset'⟩ := lb_sig hl1
      have hbb' : bl' = bl := by have h9 := HEV.out; rw [ev'] at h9; injection h9 with h9; injection h9 with h9; injection h9
      subst hbb'
      have hcc : cur' = cur := by have h8 := rl'; unfold Row at h8; have h9 := rlz; unfold Row at h9; rw [h8] at h9; simp at h9; exact h9
      subst hcc
      have hl2 := hset' z2 v9 (seaS m i) rl2.out hg2 rtX
      have hs2' := hsz.rep hg2 hbl' hl2
      have B1z : w1.heap.size ≤ z2.heap.size := Nat.le_trans hbb.size (Nat.le_trans t4z.size hg2.size)
      have hs3 := hs2'.grown hg3 (by omega)
      have BZ : Below w.heap.size w z1 := below_and B1 (Nat.le_refl _) (hbb.trans (t4z.mono hbb.size))
      have BZ2 := BZ.trans (grown_below hg2 BZ.size (fun k hk => by cases hk; have := hsb.le; omega))
      have BZ3 := BZ2.trans (grown_below hg3 BZ2.size (fun k hk => by cases hk; omega))
      refine bodyPost_ret (v := .agg (mc (wsM m []) { sb with s := s.s, l := .slice (some ⟨bl', 0, none⟩) 1 cap }).toArray) (results_cell_row rfl _ _ (w.heap.size + 1) _ _ (0, 0) _ (by rfl) rz3.out Tryz.underlying72 rfl (by kernel_rfl)) rfl ?_
      rw [HW.out]
      have hq : SOk Any z3 { m with reps := [repSig r (seaS m i)] } sb := by have h := hs3.any; rw [HWN.out] at h; exact h
      have hss := hs.s.mv (Mv.below BZ3)
      refine ⟨{ sb with s := s.s }, ?_, ⟨hq.o, hq.g, hq.o', hq.g', hq.d, ?_, hq.c, hq.v, hq.n, hq.p, ?_⟩, BZ3⟩
      · have h9 := HEV.out
        rw [HWN.out]
        simp only [mc, h9]
      · exact hss
      · exact hq.l
    refine AllReadyH.cons (o := _) rfl (fun K hK => ?_) AllReadyH.nil
    go_simp
    have c2 := below_alloc u1 (.cells #[.slice av nv cv] 24)
    have b2 := below_and b1 (Nat.le_refl _) c2
    have q2 := RDL.out u1 b1
    refine hK.out _ _ b2 (fun hHeld => ?_)
    clear hK K hHeld
    refine wpAnyH_ready (rs := [3]) (by kernel_rfl) (by simp) ?_
    refine AllReadyH.cons (o := _) rfl (fun K hK => ?_) AllReadyH.nil
    go_simp
    refine ((HD).out (u1.alloc (.cells #[.slice av nv cv] 24)) b2).mono ?_
    rintro e u3 ⟨rfl, c3⟩
    have b3 := below_and b2 (Nat.le_refl _) c3
    have q3 := q2.below c3
    try go_simp
    refine hK.out _ _ b3 (fun hHeld => ?_)
    clear hK K hHeld
    refine wpAnyH_ready (rs := [6]) (by kernel_rfl) (by simp) ?_
    refine AllReadyH.cons (o := _) rfl (fun K hK => ?_) AllReadyH.nil
    go_simp
    refine (refSign_any _ (repL i) (domS m) _ [seaB m] q3 (domS_size m) HT.out).mono ?_
    rintro e u9 ⟨v9, rfl, o9, f9, c9⟩
    have b9 := below_and b3 (Nat.le_refl _) c9
    have F9 := f9.mono b3.size
    try go_simp
    refine hK.out _ _ b9 (fun hHeld => ?_)
    clear hK K hHeld
    refine wpAnyH_ready (rs := [7]) (by kernel_rfl) (by simp) ?_
    refine AllReadyH.cons (o := _) rfl (fun K hK => ?_) AllReadyH.nil
    go_simp
    refine hK.out _ _ b9 (fun hHeld => ?_)
    clear hK K hHeld
    refine wpAnyH_done (by kernel_rfl) ?_ _
    have bX := b9
    have oX : Own u9 5 v9 (bc (seaS m i)) := by rw [HSS.out]; exact o9
    have fX : Fr wb.heap.size v9 := F9.mono hbb2.size
    obtain ⟨t1, t2, t3, t4⟩ := HAT.out u9 bX
    have hlx := (hsb.below t4).l
    rw [HRP.out] at hlx
    obtain ⟨bl, cap, cur, ev, hc1, hc2, hbl, rlx, hcl, hset⟩ := lb_sig hlx
    have hbll := hlx.lt bl (by rw [ev]; rfl)
    have HSET := (show Hid _ from hset)
    have HEV := (show Hid (sb.l = .slice (some ⟨bl, 0, none⟩) 1 cap) from ev)
    have HBL := (show Hid (C ≤ bl) from hbl)
    clear hlx hset ev hbl
    go_upto_region 10 with (first
      | (refine wl_load rfl _ _ rfl w.heap.size rfl _ _ t1 _ Tryz.underlying72 rfl (by kernel_rfl) ?_)
      | (go_at_call 97; refine (HON.out u9 (below_and hb12 (Nat.le_refl _) bX)).mono ?_; rintro e z1 ⟨rfl, y1⟩))
    have t3z := t3.below y1
    have t2z := t2.below y1
    have rlz := rlx.below y1
    have t4z := below_and t4 (Nat.le_refl _) y1
    rw [show mc (wsM m []) { sb with s := s.s } = mc (wsM m []) { sb with s := s.s, l := .slice (some ⟨bl, 0, none⟩) 1 cap } from by have := HEV.out; simp only [mc, this]] at t3z
    have c22 := t3z.cell (j := 22) rfl
    have honX : ∀ x ∈ mc (wsM m []) { sb with s := s.s, l := .slice (some ⟨bl, 0, none⟩) 1 cap }, x.oneCell' = true := by
      have h := OUT.out
      rwa [show mc (wsM m []) { sb with s := s.s } = mc (wsM m []) { sb with s := s.s, l := .slice (some ⟨bl, 0, none⟩) 1 cap } from by have := HEV.out; simp only [mc, this]] at h
    have v1X : (v9 : Value).oneCell' = true := own1 oX
    have hxb : bl ≠ b5 := rlz.apart t3z (by decide)
    have hx1 : bl ≠ w.heap.size + 1 := rlz.apart t2z (by decide)
    go_wp2_with (first
      | (refine wl_store rfl _ _ _ rfl (w.heap.size + 1) (mc (wsM m []) { sb with s := s.s, l := .slice (some ⟨bl, 0, none⟩) 1 cap }) rfl rfl _ _ t2y rfl (by kernel_rfl) honX ?_; intro z3 rz3 hg3)
      | (refine wl_load rfl _ _ rfl b5 rfl _ _ t3y _ Tryz.underlying72 rfl (by kernel_rfl) ?_)
      | (refine wl_set rfl _ _ _ rfl bl 7 _ rfl rfl _ _ rlz hcl (by kernel_rfl) v1X ?_; intro z2 rl2 hg2; have t3y := t3z.grown hg2 (fun h => by injection h with h; exact hxb h); have t2y := t2z.grown hg2 (fun h => by injection h with h; exact hx1 h)))
    have hsz := hsb.below t4z
    have ozX : Own z1 5 v9 (bc (seaS m i)) := oX.below y1
    have nvb : (v9 : Value).ownBlock ≠ some bl := own_row_nS rlz ozX (by decide)
    have oz2 := ozX.grown hg2 (fun k hk => by cases hk; exact nvb)
    have hCb : C ≤ wb.heap.size := hsb.lt
    have hlz := HSET.out
    have hl1 := (hsb.below t4z).l
    rw [HRP.out] at hl1
    have rtX : RT (fun b => C ≤ b ∧ b ≠ bl) z2 v9 (seaS m i) := ⟨oz2.rd (seaS_byt m i), fun _ k hk => ⟨Nat.le_trans hCb (fX k hk), fun e => nvb (by rw [hk, e])⟩⟩
    obtain ⟨bl', cap', cur', ev', _, _, hbl', rl', _, hset'⟩ := lb_sig hl1
    have hbb' : bl' = bl := by have h9 := HEV.out; rw [ev'] at h9; injection h9 with h9; injection h9 with h9; injection h9
    subst hbb'
    have hcc : cur' = cur := by have h8 := rl'; unfold Row at h8; have h9 := rlz; unfold Row at h9; rw [h8] at h9; simp at h9; exact h9
    subst hcc
    have hl2 := hset' z2 v9 (seaS m i) rl2.out hg2 rtX
    have hs2' := hsz.rep hg2 hbl' hl2
    have B1z : w1.heap.size ≤ z2.heap.size := Nat.le_trans hbb.size (Nat.le_trans t4z.size hg2.size)
    have hs3 := hs2'.grown hg3 (by omega)
    have BZ : Below w.heap.size w z1 := below_and B1 (Nat.le_refl _) (hbb.trans (t4z.mono hbb.size))
    have BZ2 := BZ.trans (grown_below hg2 BZ.size (fun k hk => by cases hk; have := hsb.le; omega))
    have BZ3 := BZ2.trans (grown_below hg3 BZ2.size (fun k hk => by cases hk; omega))
    refine bodyPost_ret (v := .agg (mc (wsM m []) { sb with s := s.s, l := .slice (some ⟨bl', 0, none⟩) 1 cap }).toArray) (results_cell_row rfl _ _ (w.heap.size + 1) _ _ (0, 0) _ (by rfl) rz3.out Tryz.underlying72 rfl (by kernel_rfl)) rfl ?_
    rw [HW.out]
    have hq : SOk Any z3 { m with reps := [repSig r (seaS m i)] } sb := by have h := hs3.any; rw [HWN.out] at h; exact h
    have hss := hs.s.mv (Mv.below BZ3)
    refine ⟨{ sb with s := s.s }, ?_, ⟨hq.o, hq.g, hq.o', hq.g', hq.d, ?_, hq.c, hq.v, hq.n, hq.p, ?_⟩, BZ3⟩
    · have h9 := HEV.out
      rw [HWN.out]
      simp only [mc, h9]
    · exact hss
    · exact hq.l
  refine AllReadyH.cons (o := _) rfl (fun K hK => ?_) AllReadyH.nil
  go_simp
  have c1 := below_alloc w2.drew (.cells #[.slice av nv cv] 24)
  have b1 := below_and hdw (Nat.le_refl _) c1
  have q1 := RDL.out w2.drew hdw
  refine hK.out _ _ b1 (fun hHeld => ?_)
  clear hK K hHeld
  refine wpAnyH_ready (rs := [1]) (by kernel_rfl) (by simp) ?_
  refine AllReadyH.cons (o := _) rfl (fun K hK => ?_) AllReadyH.nil
  go_simp
  refine ((HR).out (w2.drew.alloc (.cells #[.slice av nv cv] 24)) b1).mono ?_
  rintro e u2 ⟨rfl, c2⟩
  have b2 := below_and b1 (Nat.le_refl _) c2
  have q2 := q1.below c2
  try go_simp
  refine hK.out _ _ b2 (fun hHeld => ?_)
  clear hK K hHeld
  refine wpAnyH_ready (rs := [3]) (by kernel_rfl) (by simp) ?_
  refine AllReadyH.cons (o := _) rfl (fun K hK => ?_) AllReadyH.nil
  go_simp
  refine ((HD).out u2 b2).mono ?_
  rintro e u3 ⟨rfl, c3⟩
  have b3 := below_and b2 (Nat.le_refl _) c3
  have q3 := q2.below c3
  try go_simp
  refine hK.out _ _ b3 (fun hHeld => ?_)
  clear hK K hHeld
  refine wpAnyH_ready (rs := [6]) (by kernel_rfl) (by simp) ?_
  refine AllReadyH.cons (o := _) rfl (fun K hK => ?_) AllReadyH.nil
  go_simp
  refine (refSign_any _ (repL i) (domS m) _ [seaB m] q3 (domS_size m) HT.out).mono ?_
  rintro e u9 ⟨v9, rfl, o9, f9, c9⟩
  have b9 := below_and b3 (Nat.le_refl _) c9
  have F9 := f9.mono b3.size
  try go_simp
  refine hK.out _ _ b9 (fun hHeld => ?_)
  clear hK K hHeld
  refine wpAnyH_ready (rs := [7]) (by kernel_rfl) (by simp) ?_
  refine AllReadyH.cons (o := _) rfl (fun K hK => ?_) AllReadyH.nil
  go_simp
  refine hK.out _ _ b9 (fun hHeld => ?_)
  clear hK K hHeld
  refine wpAnyH_done (by kernel_rfl) ?_ _
  have bX := b9
  have oX : Own u9 5 v9 (bc (seaS m i)) := by rw [HSS.out]; exact o9
  have fX : Fr wb.heap.size v9 := F9.mono hbb2.size
  obtain ⟨t1, t2, t3, t4⟩ := HAT.out u9 bX
  have hlx := (hsb.below t4).l
  rw [HRP.out] at hlx
  obtain ⟨bl, cap, cur, ev, hc1, hc2, hbl, rlx, hcl, hset⟩ := lb_sig hlx
  have hbll := hlx.lt bl (by rw [ev]; rfl)
  have HSET := (show Hid _ from hset)
  have HEV := (show Hid (sb.l = .slice (some ⟨bl, 0, none⟩) 1 cap) from ev)
  have HBL := (show Hid (C ≤ bl) from hbl)
  clear hlx hset ev hbl
  go_upto_region 10 with (first
    | (refine wl_load rfl _ _ rfl w.heap.size rfl _ _ t1 _ Tryz.underlying72 rfl (by kernel_rfl) ?_)
    | (go_at_call 97; refine (HON.out u9 (below_and hb12 (Nat.le_refl _) bX)).mono ?_; rintro e z1 ⟨rfl, y1⟩))
  have t3z := t3.below y1
  have t2z := t2.below y1
  have rlz := rlx.below y1
  have t4z := below_and t4 (Nat.le_refl _) y1
  rw [show mc (wsM m []) { sb with s := s.s } = mc (wsM m []) { sb with s := s.s, l := .slice (some ⟨bl, 0, none⟩) 1 cap } from by have := HEV.out; simp only [mc, this]] at t3z
  have c22 := t3z.cell (j := 22) rfl
  have honX : ∀ x ∈ mc (wsM m []) { sb with s := s.s, l := .slice (some ⟨bl, 0, none⟩) 1 cap }, x.oneCell' = true := by
    have h := OUT.out
    rwa [show mc (wsM m []) { sb with s := s.s } = mc (wsM m []) { sb with s := s.s, l := .slice (some ⟨bl, 0, none⟩) 1 cap } from by have := HEV.out; simp only [mc, this]] at h
  have v1X : (v9 : Value).oneCell' = true := own1 oX
  have hxb : bl ≠ b5 := rlz.apart t3z (by decide)
  have hx1 : bl ≠ w.heap.size + 1 := rlz.apart t2z (by decide)
  go_wp2_with (first
    | (refine wl_store rfl _ _ _ rfl (w.heap.size + 1) (mc (wsM m []) { sb with s := s.s, l := .slice (some ⟨bl, 0, none⟩) 1 cap }) rfl rfl _ _ t2y rfl (by kernel_rfl) honX ?_; intro z3 rz3 hg3)
    | (refine wl_load rfl _ _ rfl b5 rfl _ _ t3y _ Tryz.underlying72 rfl (by kernel_rfl) ?_)
    | (refine wl_set rfl _ _ _ rfl bl 7 _ rfl rfl _ _ rlz hcl (by kernel_rfl) v1X ?_; intro z2 rl2 hg2; have t3y := t3z.grown hg2 (fun h => by injection h with h; exact hxb h); have t2y := t2z.grown hg2 (fun h => by injection h with h; exact hx1 h)))
  have hsz := hsb.below t4z
  have ozX : Own z1 5 v9 (bc (seaS m i)) := oX.below y1
  have nvb : (v9 : Value).ownBlock ≠ some bl := own_row_nS rlz ozX (by decide)
  have oz2 := ozX.grown hg2 (fun k hk => by cases hk; exact nvb)
  have hCb : C ≤ wb.heap.size := hsb.lt
  have hlz := HSET.out
  have hl1 := (hsb.below t4z).l
  rw [HRP.out] at hl1
  have rtX : RT (fun b => C ≤ b ∧ b ≠ bl) z2 v9 (seaS m i) := ⟨oz2.rd (seaS_byt m i), fun _ k hk => ⟨Nat.le_trans hCb (fX k hk), fun e => nvb (by rw [hk, e])⟩⟩
  obtain ⟨bl', cap', cur', ev', _, _, hbl', rl', _, hset'⟩ := lb_sig hl1
  have hbb' : bl' = bl := by have h9 := HEV.out; rw [ev'] at h9; injection h9 with h9; injection h9 with h9; injection h9
  subst hbb'
  have hcc : cur' = cur := by have h8 := rl'; unfold Row at h8; have h9 := rlz; unfold Row at h9; rw [h8] at h9; simp at h9; exact h9
  subst hcc
  have hl2 := hset' z2 v9 (seaS m i) rl2.out hg2 rtX
  have hs2' := hsz.rep hg2 hbl' hl2
  have B1z : w1.heap.size ≤ z2.heap.size := Nat.le_trans hbb.size (Nat.le_trans t4z.size hg2.size)
  have hs3 := hs2'.grown hg3 (by omega)
  have BZ : Below w.heap.size w z1 := below_and B1 (Nat.le_refl _) (hbb.trans (t4z.mono hbb.size))
  have BZ2 := BZ.trans (grown_below hg2 BZ.size (fun k hk => by cases hk; have := hsb.le; omega))
  have BZ3 := BZ2.trans (grown_below hg3 BZ2.size (fun k hk => by cases hk; omega))
  refine bodyPost_ret (v := .agg (mc (wsM m []) { sb with s := s.s, l := .slice (some ⟨bl', 0, none⟩) 1 cap }).toArray) (results_cell_row rfl _ _ (w.heap.size + 1) _ _ (0, 0) _ (by rfl) rz3.out Tryz.underlying72 rfl (by kernel_rfl)) rfl ?_
  rw [HW.out]
  have hq : SOk Any z3 { m with reps := [repSig r (seaS m i)] } sb := by have h := hs3.any; rw [HWN.out] at h; exact h
  have hss := hs.s.mv (Mv.below BZ3)
  refine ⟨{ sb with s := s.s }, ?_, ⟨hq.o, hq.g, hq.o', hq.g', hq.d, ?_, hq.c, hq.v, hq.n, hq.p, ?_⟩, BZ3⟩
  · have h9 := HEV.out
    rw [HWN.out]
    simp only [mc, h9]
  · exact hss
  · exact hq.l
theorem refSeal_any (w : World) (m : PMsg) (s : SV) (i : Int) (hs : SOk Any w m s) (hz : szM m) (hb : bM m ≤ 1060000) : Calls Tryz.prog 65 #[.agg (mc m s).toArray, .int .i64 i] w fun e w' => ∃ s', e = .returned (.agg (mc (wsM m (seaS m i)) s').toArray) ∧ SOk Any w' (wsM m (seaS m i)) s' ∧ Below w.heap.size w w' := by
  cases ho : oneM m with
  | false => exact refSeal_no w m s i hs hz hb ho
  | true => exact refSeal_yes w m s i hs hz hb ho
end
section
open Go.RowKit Oct
theorem sameWs_any (w : World) (m : PMsg) (s t : SV) (g : List Int) (hs : SOk Any w m s) (ht : SOk Any w (wsM m g) t) :
    Calls Tryz.prog 64 #[.agg (mc m s).toArray, .agg (mc (wsM m g) t).toArray] w fun e w' => e = .returned (.bool (decide (sgM m = g))) ∧ Below w.heap.size w w' := by
  by_cases h : sgM m = g
  · rw [decide_eq_true h]
    have e : wsM m g = m := by rw [← h]; exact ws_sg m
    rw [e] at ht ⊢
    exact sameMsg_eq w m s t hs ht
  · rw [decide_eq_false h]
    cases ho : oneM m with
    | false =>
      have e : wsM m g = { m with sig := g } := by unfold wsM; rw [if_neg (by simp [ho])]
      rw [e] at ht ⊢
      have hne : m.sig ≠ g := by unfold sgM at h; rw [if_neg (by simp [ho])] at h; exact h
      exact sameMsg_ns w m s t g hne hs ht
    | true =>
      obtain ⟨_, r, hr⟩ := oneM_yes ho
      have e : wsM m g = { m with reps := [repSig r g] } := by unfold wsM; rw [if_pos ho, hr]; rfl
      rw [e] at ht ⊢
      have hne : r.2.2.2.2.2.2 ≠ g := by unfold sgM at h; rw [if_pos ho, hr] at h; exact h
      exact sameMsg_nr w m s t r g hr hne hs ht
theorem sea_pos (m : PMsg) (i : Int) : 0 < (seaT m i).length ↔ seaE m = 0 ∧ 0 ≤ repL i ∧ repL i ≤ 127 := by
  unfold seaT
  by_cases h : seaE m = 0
  · rw [if_pos h]
    unfold textL
    by_cases hk : 0 ≤ repL i ∧ repL i ≤ 127
    · rw [if_pos hk]
      exact ⟨fun _ => ⟨h, hk⟩, fun _ => pack_pos _ _⟩
    · rw [if_neg hk]
      simp only [List.length_nil, Nat.lt_irrefl, false_iff]
      exact fun h2 => hk h2.2
  · rw [if_neg h]
    simp only [List.length_nil, Nat.lt_irrefl, false_iff]
    exact fun h2 => h h2.1
theorem seaQ_eq (m : PMsg) (i : Int) : seaQ m i = (decide (0 < (seaT m i).length) && decide (sgM m = seaS m i)) := by
  by_cases hp : 0 < (seaT m i).length
  · obtain ⟨h, hk⟩ := (sea_pos m i).1 hp
    rw [decide_eq_true hp, Bool.true_and]
    unfold seaQ seaS
    rw [if_pos h, if_pos h]
    unfold verL
    rw [if_pos hk]
  · rw [decide_eq_false hp, Bool.false_and]
    unfold seaQ
    by_cases h : seaE m = 0
    · rw [if_pos h]
      unfold verL
      rw [if_neg (fun hk => hp ((sea_pos m i).2 ⟨h, hk⟩))]
    · rw [if_neg h]
set_option maxRecDepth 10000 in
set_option maxHeartbeats 8000000 in
theorem refSealed_any (w : World) (m : PMsg) (s : SV) (i : Int) (hs : SOk Any w m s) (hz : szM m) (hb : bM m ≤ 1060000) : Calls Tryz.prog 35 #[.agg (mc m s).toArray, .int .i64 i] w fun e w' => e = .returned (.bool (seaQ m i)) ∧ Below w.heap.size w w' := by
  rw [seaQ_eq]
  obtain ⟨w1, hw1, r1, B1⟩ := boxM w m s
  have hs1 := hs.below B1
  have hdw : Below w1.heap.size w1 w1.drew := ⟨rfl, rfl, rfl, Nat.le_refl _, fun _ _ => rfl⟩
  have HST := (show Hid (∀ u, Below w1.heap.size w1 u → Calls Tryz.prog 63 #[.agg (mc m s).toArray, .int .i64 i] u fun e w' => ∃ a c, e = .returned (.slice a (seaT m i).length c) ∧ Below u.heap.size u w') from fun u hu => (refSealText_any u m s i (hs1.below hu) hz hb).mono fun e w' ⟨v, e1, e2, _, e4⟩ => by
    obtain ⟨a, c, rfl, _⟩ := e2.form
    rw [bc_len] at e1
    exact ⟨a, c, e1, e4⟩)
  have HSE := (show Hid (∀ u, Below w1.heap.size w1 u → Calls Tryz.prog 65 #[.agg (mc m s).toArray, .int .i64 i] u fun e w' => ∃ t, e = .returned (.agg (mc (wsM m (seaS m i)) t).toArray) ∧ SOk Any w' (wsM m (seaS m i)) t ∧ Below u.heap.size u w') from fun u hu => refSeal_any u m s i (hs1.below hu) hz hb)
  have HSA := (show Hid (∀ u t, Below w1.heap.size w1 u → SOk Any u (wsM m (seaS m i)) t → Calls Tryz.prog 64 #[.agg (mc m s).toArray, .agg (mc (wsM m (seaS m i)) t).toArray] u fun e w' => e = .returned (.bool (decide (sgM m = seaS m i))) ∧ Below u.heap.size u w') from fun u t hu ht => sameWs_any u m s t _ (hs1.below hu) ht)
  have HG := (show Hid (∀ u, Below w1.heap.size w1 u → u.rangeAt w.heap.size 0 (mc m s)) from fun u hu j x hx => by rw [Nat.zero_add]; exact (r1.below hu).cell hx)
  obtain ⟨bb, hbb⟩ : ∃ bb, bb = decide (sgM m = seaS m i) := ⟨_, rfl⟩
  rw [← hbb] at HSA ⊢
  obtain ⟨N, hN⟩ : ∃ N, N = (seaT m i).length := ⟨_, rfl⟩
  rw [← hN] at HST ⊢
  have HWS := (show Hid (∀ t, (mc (wsM m (seaS m i)) t).length = 23) from fun t => rfl)
  clear hbb hN hs1 hs hz hb r1
  by_cases hp : 0 < N
  · rw [decide_eq_true hp, Bool.true_and]
    have hp' : (0 : Int) < (N : Int) := by omega
    go_enter Tryz.func35, Tryz.ntmps35
    go_upto_region 1 with fail
    rw [← hw1]
    clear hw1
    refine wp_region_held_drew (S := fun u => Below w1.heap.size w1 u) (by kernel_rfl) hdw (fun hHeld => ?_)
    clear hHeld
    refine wpAnyH_take (i := 0) (v := .agg (mc m s).toArray) rfl (by kernel_rfl) (by kernel_rfl) (by kernel_rfl) (fun _ _ _ h => h) (yieldsIf_load_mid (by kernel_rfl) _ _ rfl w.heap.size 0 rfl (mc m s) _ HG.out Tryz.underlying72 rfl (by kernel_rfl)) hdw ?_
    simp only [Act.put, List.setIfInBounds_toArray, List.set_cons_zero, List.set_cons_succ]
    refine wpAnyH_take (i := 1) (v := .int .i64 i) rfl (by kernel_rfl) (by kernel_rfl) (by kernel_rfl) (fun _ _ _ h => h) (Or.inl ⟨by kernel_rfl, fun u hSu => by go_simp⟩) hdw ?_
    simp only [Act.put, List.setIfInBounds_toArray, List.set_cons_zero, List.set_cons_succ]
    refine wpAnyH_ready (rs := [2]) (by kernel_rfl) (by simp) ?_
    refine AllReadyH.cons (o := _) rfl (fun K hK => ?_) AllReadyH.nil
    go_simp
    refine (HST.out w1.drew hdw).mono ?_
    rintro e u1 ⟨a1, c1, rfl, y1⟩
    have b1 := below_and hdw (Nat.le_refl _) y1
    try go_simp
    refine hK.out _ _ b1 (fun hHeld => ?_)
    clear hK K hHeld
    refine wpAnyH_ready (rs := [3]) (by kernel_rfl) (by simp) ?_
    refine AllReadyH.cons (o := _) rfl (fun K hK => ?_) AllReadyH.nil
    go_simp
    refine hK.out _ _ b1 (fun hHeld => ?_)
    clear hK K hHeld
    refine wpAnyH_ready (rs := [4]) (by kernel_rfl) (by simp) ?_
    refine AllReadyH.cons (o := _) rfl (fun K hK => ?_) AllReadyH.nil
    go_simp
    refine hK.out _ _ b1 (fun hHeld => ?_)
    clear hK K hHeld
    refine wpAnyH_ready (rs := [5]) (by kernel_rfl) (by simp) ?_
    refine AllReadyH.cons (o := _) rfl (fun K hK => ?_) AllReadyH.nil
    go_simp
    refine hK.out _ _ b1 (fun hHeld => ?_)
    clear hK K hHeld
    refine wpAnyH_take (i := 6) (v := .agg (mc m s).toArray) rfl (by kernel_rfl) (by kernel_rfl) (by kernel_rfl) (fun _ _ _ h => h) (yieldsIf_load_mid (by kernel_rfl) _ _ rfl w.heap.size 0 rfl (mc m s) _ HG.out Tryz.underlying72 rfl (by kernel_rfl)) b1 ?_
    simp only [Act.put, List.setIfInBounds_toArray, List.set_cons_zero, List.set_cons_succ]
    refine wpAnyH_take (i := 7) (v := .agg (mc m s).toArray) rfl (by kernel_rfl) (by kernel_rfl) (by kernel_rfl) (fun _ _ _ h => h) (yieldsIf_load_mid (by kernel_rfl) _ _ rfl w.heap.size 0 rfl (mc m s) _ HG.out Tryz.underlying72 rfl (by kernel_rfl)) b1 ?_
    simp only [Act.put, List.setIfInBounds_toArray, List.set_cons_zero, List.set_cons_succ]
    refine wpAnyH_take (i := 8) (v := .int .i64 i) rfl (by kernel_rfl) (by kernel_rfl) (by kernel_rfl) (fun _ _ _ h => h) (Or.inl ⟨by kernel_rfl, fun u hSu => by go_simp⟩) b1 ?_
    simp only [Act.put, List.setIfInBounds_toArray, List.set_cons_zero, List.set_cons_succ]
    refine wpAnyH_ready (rs := [9]) (by kernel_rfl) (by simp) ?_
    refine AllReadyH.cons (o := _) rfl (fun K hK => ?_) AllReadyH.nil
    go_simp
    refine (HSE.out u1 b1).mono ?_
    rintro e u2 ⟨t2, rfl, ht2, y2⟩
    have b2 := below_and b1 (Nat.le_refl _) y2
    try go_simp
    refine hK.out _ _ b2 (fun hHeld => ?_)
    clear hK K hHeld
    refine wpAnyH_ready (rs := [10]) (by kernel_rfl) (by simp) ?_
    refine AllReadyH.cons (o := _) rfl (fun K hK => ?_) AllReadyH.nil
    go_simp
    refine (HSA.out u2 t2 b2 ht2).mono ?_
    rintro e u3 ⟨rfl, y3⟩
    have b3 := below_and b2 (Nat.le_refl _) y3
    try go_simp
    refine hK.out _ _ b3 (fun hHeld => ?_)
    clear hK K hHeld
    refine wpAnyH_ready (rs := [11]) (by kernel_rfl) (by simp) ?_
    refine AllReadyH.cons (o := _) rfl (fun K hK => ?_) AllReadyH.nil
    go_simp
    refine hK.out _ _ b3 (fun hHeld => ?_)
    clear hK K hHeld
    refine wpAnyH_ready (rs := [12]) (by kernel_rfl) (by simp) ?_
    refine AllReadyH.cons (o := _) rfl (fun K hK => ?_) AllReadyH.nil
    go_simp
    refine hK.out _ _ b3 (fun hHeld => ?_)
    clear hK K hHeld
    refine wpAnyH_done (by kernel_rfl) ?_ _
    go_wp2_with fail
    go_ret
    exact ⟨rfl, below_and B1 (Nat.le_refl _) b3⟩
  · have hp0 : N = 0 := by omega
    subst hp0
    rw [show decide (0 < 0) = false from rfl, Bool.false_and]
    clear hp
    go_enter Tryz.func35, Tryz.ntmps35
    go_upto_region 1 with fail
    rw [← hw1]
    clear hw1
    refine wp_region_held_drew (S := fun u => Below w1.heap.size w1 u) (by kernel_rfl) hdw (fun hHeld => ?_)
    clear hHeld
    refine wpAnyH_take (i := 0) (v := .agg (mc m s).toArray) rfl (by kernel_rfl) (by kernel_rfl) (by kernel_rfl) (fun _ _ _ h => h) (yieldsIf_load_mid (by kernel_rfl) _ _ rfl w.heap.size 0 rfl (mc m s) _ HG.out Tryz.underlying72 rfl (by kernel_rfl)) hdw ?_
    simp only [Act.put, List.setIfInBounds_toArray, List.set_cons_zero, List.set_cons_succ]
    refine wpAnyH_take (i := 1) (v := .int .i64 i) rfl (by kernel_rfl) (by kernel_rfl) (by kernel_rfl) (fun _ _ _ h => h) (Or.inl ⟨by kernel_rfl, fun u hSu => by go_simp⟩) hdw ?_
    simp only [Act.put, List.setIfInBounds_toArray, List.set_cons_zero, List.set_cons_succ]
    refine wpAnyH_ready (rs := [2]) (by kernel_rfl) (by simp) ?_
    refine AllReadyH.cons (o := _) rfl (fun K hK => ?_) AllReadyH.nil
    go_simp
    refine (HST.out w1.drew hdw).mono ?_
    rintro e u1 ⟨a1, c1, rfl, y1⟩
    have b1 := below_and hdw (Nat.le_refl _) y1
    try go_simp
    refine hK.out _ _ b1 (fun hHeld => ?_)
    clear hK K hHeld
    refine wpAnyH_ready (rs := [3]) (by kernel_rfl) (by simp) ?_
    refine AllReadyH.cons (o := _) rfl (fun K hK => ?_) AllReadyH.nil
    go_simp
    refine hK.out _ _ b1 (fun hHeld => ?_)
    clear hK K hHeld
    refine wpAnyH_ready (rs := [4]) (by kernel_rfl) (by simp) ?_
    refine AllReadyH.cons (o := _) rfl (fun K hK => ?_) AllReadyH.nil
    go_simp
    refine hK.out _ _ b1 (fun hHeld => ?_)
    clear hK K hHeld
    refine wpAnyH_ready (rs := [5]) (by kernel_rfl) (by simp) ?_
    refine AllReadyH.cons (o := _) rfl (fun K hK => ?_) AllReadyH.nil
    go_simp
    refine hK.out _ _ b1 (fun hHeld => ?_)
    clear hK K hHeld
    refine wpAnyH_take (i := 6) (v := undef) rfl (by kernel_rfl) (by kernel_rfl) (by kernel_rfl) (fun _ _ _ h => h) (Or.inr ⟨by kernel_rfl, rfl⟩) b1 ?_
    simp only [Act.put, List.setIfInBounds_toArray, List.set_cons_zero, List.set_cons_succ]
    refine wpAnyH_take (i := 7) (v := undef) rfl (by kernel_rfl) (by kernel_rfl) (by kernel_rfl) (fun _ _ _ h => h) (Or.inr ⟨by kernel_rfl, rfl⟩) b1 ?_
    simp only [Act.put, List.setIfInBounds_toArray, List.set_cons_zero, List.set_cons_succ]
    refine wpAnyH_take (i := 8) (v := undef) rfl (by kernel_rfl) (by kernel_rfl) (by kernel_rfl) (fun _ _ _ h => h) (Or.inr ⟨by kernel_rfl, rfl⟩) b1 ?_
    simp only [Act.put, List.setIfInBounds_toArray, List.set_cons_zero, List.set_cons_succ]
    refine wpAnyH_take (i := 9) (v := undef) rfl (by kernel_rfl) (by kernel_rfl) (by kernel_rfl) (fun _ _ _ h => h) (Or.inr ⟨by kernel_rfl, rfl⟩) b1 ?_
    simp only [Act.put, List.setIfInBounds_toArray, List.set_cons_zero, List.set_cons_succ]
    refine wpAnyH_take (i := 10) (v := undef) rfl (by kernel_rfl) (by kernel_rfl) (by kernel_rfl) (fun _ _ _ h => h) (Or.inr ⟨by kernel_rfl, rfl⟩) b1 ?_
    simp only [Act.put, List.setIfInBounds_toArray, List.set_cons_zero, List.set_cons_succ]
    refine wpAnyH_ready (rs := [11]) (by kernel_rfl) (by simp) ?_
    refine AllReadyH.cons (o := _) rfl (fun K hK => ?_) AllReadyH.nil
    go_simp
    refine hK.out _ _ b1 (fun hHeld => ?_)
    clear hK K hHeld
    refine wpAnyH_ready (rs := [12]) (by kernel_rfl) (by simp) ?_
    refine AllReadyH.cons (o := _) rfl (fun K hK => ?_) AllReadyH.nil
    go_simp
    refine hK.out _ _ b1 (fun hHeld => ?_)
    clear hK K hHeld
    refine wpAnyH_done (by kernel_rfl) ?_ _
    go_wp2_with fail
    go_ret
    exact ⟨rfl, below_and B1 (Nat.le_refl _) b1⟩
end
end Go.Proofs.YtgbfmccecnfooaaGreatDoor
