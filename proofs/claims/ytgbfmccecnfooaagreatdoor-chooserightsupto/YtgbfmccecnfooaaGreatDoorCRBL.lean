/- Sealed messages: vote.Sealed. (mk12v.py) -/
import Derived.Test.YtgbfmccecnfooaaGreatDoorCRBG
set_option linter.unusedSimpArgs false
set_option linter.unusedVariables false
namespace Go.Proofs.YtgbfmccecnfooaaGreatDoor
open Go.RowKit Oct
/-- Is it the signer's message? -/
def seaQ (m : PMsg) (i : Int) : Bool := if seaE m = 0 then verL (repL i) (sgM m) (sL (domS m)) [seaB m] else false
set_option maxRecDepth 10000 in
set_option maxHeartbeats 4000000 in
theorem sealed_any (w : World) (m : PMsg) (s : SV) (i : Int) (hs : SOk Any w m s) (hT : Tab w) : Calls Tryz.prog 31 #[.agg (mc m s).toArray, .int .i64 i] w fun e w' => e = .returned (.bool (seaQ m i)) ∧ Below w.heap.size w w' := by
  obtain ⟨w1, hw1, r1, B1⟩ := boxM w m s
  have hC := sealBody_any w1 m s (hs.below B1)
  unfold seaQ
  by_cases h0 : seaE m = 0
  case neg =>
    rw [if_neg h0]
    obtain ⟨E, hE⟩ : ∃ E, E = seaE m := ⟨_, rfl⟩
    rw [← hE] at hC h0
    clear hE
    go_enter Tryz.func31, Tryz.ntmps31
    go_upto_region 1 with fail
    rw [← hw1]
    clear hw1
    go_wp2_with (first
      | (refine wl_load rfl _ _ rfl w.heap.size rfl _ _ r1 _ Tryz.underlying72 rfl (by kernel_rfl) ?_)
      | (go_at_call 55; refine hC.mono ?_; rintro e w2 ⟨sv, rfl, o2, y2, f2, hb2⟩))
    have B2 := below_and B1 (Nat.le_refl _) hb2
    have hdw : Below w2.heap.size w2 w2.drew := ⟨rfl, rfl, rfl, Nat.le_refl _, fun _ _ => rfl⟩
    clear hC r1 hs o2 y2 f2 hb2 B1
    refine wp_region_held_drew (S := fun u => Below w2.heap.size w2 u) (by kernel_rfl) hdw (fun hHeld => ?_)
    clear hHeld
    refine wpAnyH_take (i := 0) (v := .int .i64 E) rfl (by kernel_rfl) (by kernel_rfl) (by kernel_rfl) (fun _ _ _ h => h) (Or.inl ⟨by kernel_rfl, fun u hSu => by go_simp⟩) hdw ?_
    simp only [Act.put, List.setIfInBounds_toArray, List.set_cons_zero, List.set_cons_succ]
    refine wpAnyH_take (i := 1) (v := .bool false) rfl (by kernel_rfl) (by kernel_rfl) (by kernel_rfl) (fun _ _ _ h => h) (Or.inl ⟨by kernel_rfl, fun u hSu => by go_simp⟩) hdw ?_
    simp only [Act.put, List.setIfInBounds_toArray, List.set_cons_zero, List.set_cons_succ]
    refine wpAnyH_take (i := 2) (v := .bool false) rfl (by kernel_rfl) (by kernel_rfl) (by kernel_rfl) (fun _ _ _ h => h) (Or.inl ⟨by kernel_rfl, fun u hSu => by go_simp⟩) hdw ?_
    simp only [Act.put, List.setIfInBounds_toArray, List.set_cons_zero, List.set_cons_succ]
    refine wpAnyH_take (i := 3) (v := undef) rfl (by kernel_rfl) (by kernel_rfl) (by kernel_rfl) (fun _ _ _ h => h) (Or.inr ⟨by kernel_rfl, rfl⟩) hdw ?_
    simp only [Act.put, List.setIfInBounds_toArray, List.set_cons_zero, List.set_cons_succ]
    refine wpAnyH_take (i := 4) (v := undef) rfl (by kernel_rfl) (by kernel_rfl) (by kernel_rfl) (fun _ _ _ h => h) (Or.inr ⟨by kernel_rfl, rfl⟩) hdw ?_
    simp only [Act.put, List.setIfInBounds_toArray, List.set_cons_zero, List.set_cons_succ]
    refine wpAnyH_take (i := 5) (v := undef) rfl (by kernel_rfl) (by kernel_rfl) (by kernel_rfl) (fun _ _ _ h => h) (Or.inr ⟨by kernel_rfl, rfl⟩) hdw ?_
    simp only [Act.put, List.setIfInBounds_toArray, List.set_cons_zero, List.set_cons_succ]
    refine wpAnyH_take (i := 6) (v := undef) rfl (by kernel_rfl) (by kernel_rfl) (by kernel_rfl) (fun _ _ _ h => h) (Or.inr ⟨by kernel_rfl, rfl⟩) hdw ?_
    simp only [Act.put, List.setIfInBounds_toArray, List.set_cons_zero, List.set_cons_succ]
    refine wpAnyH_take (i := 7) (v := undef) rfl (by kernel_rfl) (by kernel_rfl) (by kernel_rfl) (fun _ _ _ h => h) (Or.inr ⟨by kernel_rfl, rfl⟩) hdw ?_
    simp only [Act.put, List.setIfInBounds_toArray, List.set_cons_zero, List.set_cons_succ]
    refine wpAnyH_take (i := 8) (v := undef) rfl (by kernel_rfl) (by kernel_rfl) (by kernel_rfl) (fun _ _ _ h => h) (Or.inr ⟨by kernel_rfl, rfl⟩) hdw ?_
    simp only [Act.put, List.setIfInBounds_toArray, List.set_cons_zero, List.set_cons_succ]
    refine wpAnyH_take (i := 9) (v := undef) rfl (by kernel_rfl) (by kernel_rfl) (by kernel_rfl) (fun _ _ _ h => h) (Or.inr ⟨by kernel_rfl, rfl⟩) hdw ?_
    simp only [Act.put, List.setIfInBounds_toArray, List.set_cons_zero, List.set_cons_succ]
    refine wpAnyH_take (i := 10) (v := undef) rfl (by kernel_rfl) (by kernel_rfl) (by kernel_rfl) (fun _ _ _ h => h) (Or.inr ⟨by kernel_rfl, rfl⟩) hdw ?_
    simp only [Act.put, List.setIfInBounds_toArray, List.set_cons_zero, List.set_cons_succ]
    refine wpAnyH_take (i := 11) (v := undef) rfl (by kernel_rfl) (by kernel_rfl) (by kernel_rfl) (fun _ _ _ h => h) (Or.inr ⟨by kernel_rfl, rfl⟩) hdw ?_
    simp only [Act.put, List.setIfInBounds_toArray, List.set_cons_zero, List.set_cons_succ]
    refine wpAnyH_ready (rs := [12]) (by kernel_rfl) (by simp) ?_
    refine AllReadyH.cons (o := _) rfl (fun K hK => ?_) AllReadyH.nil
    go_simp
    refine hK.out _ _ hdw (fun hHeld => ?_)
    clear hK K hHeld
    refine wpAnyH_ready (rs := [13]) (by kernel_rfl) (by simp) ?_
    refine AllReadyH.cons (o := _) rfl (fun K hK => ?_) AllReadyH.nil
    go_simp
    refine hK.out _ _ hdw (fun hHeld => ?_)
    clear hK K hHeld
    refine wpAnyH_done (by kernel_rfl) ?_ _
    go_wp2_with fail
    go_ret
    exact ⟨rfl, below_and B2 (Nat.le_refl _) hdw⟩
  rw [if_pos h0]
  rw [h0] at hC
  clear h0
  go_enter Tryz.func31, Tryz.ntmps31
  go_upto_region 1 with fail
  rw [← hw1]
  clear hw1
  go_wp2_with (first
    | (refine wl_load rfl _ _ rfl w.heap.size rfl _ _ r1 _ Tryz.underlying72 rfl (by kernel_rfl) ?_)
    | (go_at_call 55; refine hC.mono ?_; rintro e w2 ⟨sv, rfl, o2, y2, f2, hb2⟩))
  have B2 := below_and B1 (Nat.le_refl _) hb2
  have r2 := r1.below hb2
  have hs2 := hs.below B2
  have hdw : Below w2.heap.size w2 w2.drew := ⟨rfl, rfl, rfl, Nat.le_refl _, fun _ _ => rfl⟩
  have R2 := o2.rd y2
  obtain ⟨av, cv, rfl, hcv⟩ := R2.form
  obtain ⟨nv, hnv⟩ : ∃ nv, nv = (seaB m).length := ⟨_, rfl⟩
  rw [← hnv] at R2 o2
  rw [← hnv]
  have HR := (show Hid (∀ u, Below w2.heap.size w2 u → Calls Tryz.prog 57 #[.int .i64 i] u fun e w' => e = .returned (.int .i64 (repL i)) ∧ Below u.heap.size u w') from fun u _ => (replica_any u i).mono fun e w' h => ⟨h.1, h.2 ▸ Below.refl _ _⟩)
  have HD := (show Hid (∀ u, Below w2.heap.size w2 u → Calls Tryz.prog 59 #[.agg (mc m s).toArray] u fun e w' => e = .returned (.string (domS m)) ∧ Below u.heap.size u w') from fun u hu => sealDomain_any Any u m s (hs2.below hu))
  have HS := (show Hid (∀ u, Below w2.heap.size w2 u → Calls Tryz.prog 58 #[.agg (mc m s).toArray] u fun e w' => ∃ v, e = .returned v ∧ Rd w' v (sgM m) ∧ Below u.heap.size u w') from fun u hu => (sigOf_any Any u m s (hs2.below hu)).mono fun e w' h => by obtain ⟨v, h1, h2, h3⟩ := h; exact ⟨v, h1, h2.1, h3⟩)
  have RDL := (show Hid (∀ u, Below w2.heap.size w2 u → Rdl (u.alloc (.cells #[.slice av nv cv] 24)) (.slice (some ⟨u.heap.size, 0, none⟩) 1 1) [seaB m]) from fun u hu => rdlS_one u (.slice av nv cv) _ (R2.below hu))
  have HT := (show Hid (tot [seaB m] ≤ 4000000) by show _ ≤ _; have := seaB_len m; simp only [tot]; omega)
  have HG := (show Hid (∀ u, Below w2.heap.size w2 u → u.rangeAt w.heap.size 0 (mc m s)) from fun u hu j x hx => by rw [Nat.zero_add]; exact (r2.below hu).cell hx)
  have TT := (show Hid (∀ u, Below w2.heap.size w2 u → Tab u) from fun u hu => hT.below (below_and B2 (Nat.le_refl _) hu))
  clear hC r1 r2 hs2 hs R2 o2 y2 f2 hb2 B1 hcv hnv hT
  refine wp_region_held_drew (S := fun u => Below w2.heap.size w2 u) (by kernel_rfl) hdw (fun hHeld => ?_)
  clear hHeld
  refine wpAnyH_take (i := 0) (v := .int .i64 0) rfl (by kernel_rfl) (by kernel_rfl) (by kernel_rfl) (fun _ _ _ h => h) (Or.inl ⟨by kernel_rfl, fun u hSu => by go_simp⟩) hdw ?_
  simp only [Act.put, List.setIfInBounds_toArray, List.set_cons_zero, List.set_cons_succ]
  refine wpAnyH_take (i := 1) (v := .bool true) rfl (by kernel_rfl) (by kernel_rfl) (by kernel_rfl) (fun _ _ _ h => h) (Or.inl ⟨by kernel_rfl, fun u hSu => by go_simp⟩) hdw ?_
  simp only [Act.put, List.setIfInBounds_toArray, List.set_cons_zero, List.set_cons_succ]
  refine wpAnyH_take (i := 2) (v := .bool true) rfl (by kernel_rfl) (by kernel_rfl) (by kernel_rfl) (fun _ _ _ h => h) (Or.inl ⟨by kernel_rfl, fun u hSu => by go_simp⟩) hdw ?_
  simp only [Act.put, List.setIfInBounds_toArray, List.set_cons_zero, List.set_cons_succ]
  refine wpAnyH_take (i := 3) (v := .int .i64 i) rfl (by kernel_rfl) (by kernel_rfl) (by kernel_rfl) (fun _ _ _ h => h) (Or.inl ⟨by kernel_rfl, fun u hSu => by go_simp⟩) hdw ?_
  simp only [Act.put, List.setIfInBounds_toArray, List.set_cons_zero, List.set_cons_succ]
  refine wpAnyH_take (i := 9) (v := (.slice av nv cv)) rfl (by kernel_rfl) (by kernel_rfl) (by kernel_rfl) (fun _ _ _ h => h) (Or.inl ⟨by kernel_rfl, fun u hSu => by go_simp⟩) hdw ?_
  simp only [Act.put, List.setIfInBounds_toArray, List.set_cons_zero, List.set_cons_succ]
  refine wpAnyH_take (i := 5) (v := .agg (mc m s).toArray) rfl (by kernel_rfl) (by kernel_rfl) (by kernel_rfl) (fun _ _ _ h => h) (yieldsIf_load_mid (by kernel_rfl) _ _ rfl w.heap.size 0 rfl (mc m s) _ HG.out Tryz.underlying72 rfl (by kernel_rfl)) hdw ?_
  simp only [Act.put, List.setIfInBounds_toArray, List.set_cons_zero, List.set_cons_succ]
  refine wpAnyH_take (i := 7) (v := .agg (mc m s).toArray) rfl (by kernel_rfl) (by kernel_rfl) (by kernel_rfl) (fun _ _ _ h => h) (yieldsIf_load_mid (by kernel_rfl) _ _ rfl w.heap.size 0 rfl (mc m s) _ HG.out Tryz.underlying72 rfl (by kernel_rfl)) hdw ?_
  simp only [Act.put, List.setIfInBounds_toArray, List.set_cons_zero, List.set_cons_succ]
  refine wpAnyH_ready (rs := [4, 10]) (by kernel_rfl) (by simp) ?_
  refine AllReadyH.cons (o := _) rfl (fun K hK => ?_) ?_
  · skip
    go_simp
    refine (HR.out w2.drew hdw).mono ?_
    rintro e u1 ⟨rfl, c1⟩
    have b1 := below_and hdw (Nat.le_refl _) c1
    try go_simp
    refine hK.out _ _ b1 (fun hHeld => ?_)
    clear hK K hHeld
    refine wpAnyH_ready (rs := [6, 10]) (by kernel_rfl) (by simp) ?_
    refine AllReadyH.cons (o := _) rfl (fun K hK => ?_) ?_
    · skip
      go_simp
      refine (HS.out u1 b1).mono ?_
      rintro e u2 ⟨gv, rfl, g2, c2⟩
      have b2 := below_and b1 (Nat.le_refl _) c2
      try go_simp
      refine hK.out _ _ b2 (fun hHeld => ?_)
      clear hK K hHeld
      refine wpAnyH_ready (rs := [8, 10]) (by kernel_rfl) (by simp) ?_
      refine AllReadyH.cons (o := _) rfl (fun K hK => ?_) ?_
      · skip
        go_simp
        refine (HD.out u2 b2).mono ?_
        rintro e u3 ⟨rfl, c3⟩
        have g3 := g2.below c3
        have b3 := below_and b2 (Nat.le_refl _) c3
        try go_simp
        refine hK.out _ _ b3 (fun hHeld => ?_)
        clear hK K hHeld
        refine wpAnyH_ready (rs := [10]) (by kernel_rfl) (by simp) ?_
        refine AllReadyH.cons (o := _) rfl (fun K hK => ?_) AllReadyH.nil
        go_simp
        have c4 := below_alloc u3 (.cells #[(.slice av nv cv)] 24)
        have q4 := RDL.out u3 b3
        have g4 := g3.below c4
        have b4 := below_and b3 (Nat.le_refl _) c4
        refine hK.out _ _ b4 (fun hHeld => ?_)
        clear hK K hHeld
        refine wpAnyH_ready (rs := [11]) (by kernel_rfl) (by simp) ?_
        refine AllReadyH.cons (o := _) rfl (fun K hK => ?_) AllReadyH.nil
        go_simp
        refine (verify_any _ (repL i) _ (sgM m) (domS m) _ [seaB m] g4 q4 (domS_size m) HT.out (TT.out _ b4)).mono ?_
        rintro e u9 ⟨rfl, c9⟩
        have b9 := below_and b4 (Nat.le_refl _) c9
        generalize hbb : verL (repL i) (sgM m) (sL (domS m)) [seaB m] = bb
        replace hbb := (show Hid (verL (repL i) (sgM m) (sL (domS m)) [seaB m] = bb) from hbb)
        try go_simp
        refine hK.out _ _ b9 (fun hHeld => ?_)
        clear hK K hHeld
        refine wpAnyH_ready (rs := [12]) (by kernel_rfl) (by simp) ?_
        refine AllReadyH.cons (o := _) rfl (fun K hK => ?_) AllReadyH.nil
        go_simp
        refine hK.out _ _ b9 (fun hHeld => ?_)
        clear hK K hHeld
        refine wpAnyH_ready (rs := [13]) (by kernel_rfl) (by simp) ?_
        refine AllReadyH.cons (o := _) rfl (fun K hK => ?_) AllReadyH.nil
        go_simp
        refine hK.out _ _ b9 (fun hHeld => ?_)
        clear hK K hHeld
        refine wpAnyH_done (by kernel_rfl) ?_ _
        go_wp2_with fail
        go_ret
        exact ⟨by rw [hbb.out]; rfl, below_and B2 (Nat.le_refl _) b9⟩
      refine AllReadyH.cons (o := _) rfl (fun K hK => ?_) AllReadyH.nil
      go_simp
      have c3 := below_alloc u2 (.cells #[(.slice av nv cv)] 24)
      have q3 := RDL.out u2 b2
      have g3 := g2.below c3
      have b3 := below_and b2 (Nat.le_refl _) c3
      refine hK.out _ _ b3 (fun hHeld => ?_)
      clear hK K hHeld
      refine wpAnyH_ready (rs := [8]) (by kernel_rfl) (by simp) ?_
      refine AllReadyH.cons (o := _) rfl (fun K hK => ?_) AllReadyH.nil
      go_simp
      refine (HD.out (u2.alloc (.cells #[(.slice av nv cv)] 24)) b3).mono ?_
      rintro e u4 ⟨rfl, c4⟩
      have q4 := q3.below c4
      have g4 := g3.below c4
      have b4 := below_and b3 (Nat.le_refl _) c4
      try go_simp
      refine hK.out _ _ b4 (fun hHeld => ?_)
      clear hK K hHeld
      refine wpAnyH_ready (rs := [11]) (by kernel_rfl) (by simp) ?_
      refine AllReadyH.cons (o := _) rfl (fun K hK => ?_) AllReadyH.nil
      go_simp
      refine (verify_any _ (repL i) _ (sgM m) (domS m) _ [seaB m] g4 q4 (domS_size m) HT.out (TT.out _ b4)).mono ?_
      rintro e u9 ⟨rfl, c9⟩
      have b9 := below_and b4 (Nat.le_refl _) c9
      generalize hbb : verL (repL i) (sgM m) (sL (domS m)) [seaB m] = bb
      replace hbb := (show Hid (verL (repL i) (sgM m) (sL (domS m)) [seaB m] = bb) from hbb)
      try go_simp
      refine hK.out _ _ b9 (fun hHeld => ?_)
      clear hK K hHeld
      refine wpAnyH_ready (rs := [12]) (by kernel_rfl) (by simp) ?_
      refine AllReadyH.cons (o := _) rfl (fun K hK => ?_) AllReadyH.nil
      go_simp
      refine hK.out _ _ b9 (fun hHeld => ?_)
      clear hK K hHeld
      refine wpAnyH_ready (rs := [13]) (by kernel_rfl) (by simp) ?_
      refine AllReadyH.cons (o := _) rfl (fun K hK => ?_) AllReadyH.nil
      go_simp
      refine hK.out _ _ b9 (fun hHeld => ?_)
      clear hK K hHeld
      refine wpAnyH_done (by kernel_rfl) ?_ _
      go_wp2_with fail
      go_ret
      exact ⟨by rw [hbb.out]; rfl, below_and B2 (Nat.le_refl _) b9⟩
    refine AllReadyH.cons (o := _) rfl (fun K hK => ?_) AllReadyH.nil
    go_simp
    have c2 := below_alloc u1 (.cells #[(.slice av nv cv)] 24)
    have q2 := RDL.out u1 b1
    have b2 := below_and b1 (Nat.le_refl _) c2
    refine hK.out _ _ b2 (fun hHeld => ?_)
    clear hK K hHeld
    refine wpAnyH_ready (rs := [6]) (by kernel_rfl) (by simp) ?_
    refine AllReadyH.cons (o := _) rfl (fun K hK => ?_) AllReadyH.nil
    go_simp
    refine (HS.out (u1.alloc (.cells #[(.slice av nv cv)] 24)) b2).mono ?_
    rintro e u3 ⟨gv, rfl, g3, c3⟩
    have q3 := q2.below c3
    have b3 := below_and b2 (Nat.le_refl _) c3
    try go_simp
    refine hK.out _ _ b3 (fun hHeld => ?_)
    clear hK K hHeld
    refine wpAnyH_ready (rs := [8]) (by kernel_rfl) (by simp) ?_
    refine AllReadyH.cons (o := _) rfl (fun K hK => ?_) AllReadyH.nil
    go_simp
    refine (HD.out u3 b3).mono ?_
    rintro e u4 ⟨rfl, c4⟩
    have q4 := q3.below c4
    have g4 := g3.below c4
    have b4 := below_and b3 (Nat.le_refl _) c4
    try go_simp
    refine hK.out _ _ b4 (fun hHeld => ?_)
    clear hK K hHeld
    refine wpAnyH_ready (rs := [11]) (by kernel_rfl) (by simp) ?_
    refine AllReadyH.cons (o := _) rfl (fun K hK => ?_) AllReadyH.nil
    go_simp
    refine (verify_any _ (repL i) _ (sgM m) (domS m) _ [seaB m] g4 q4 (domS_size m) HT.out (TT.out _ b4)).mono ?_
    rintro e u9 ⟨rfl, c9⟩
    have b9 := below_and b4 (Nat.le_refl _) c9
    generalize hbb : verL (repL i) (sgM m) (sL (domS m)) [seaB m] = bb
    replace hbb := (show Hid (verL (repL i) (sgM m) (sL (domS m)) [seaB m] = bb) from hbb)
    try go_simp
    refine hK.out _ _ b9 (fun hHeld => ?_)
    clear hK K hHeld
    refine wpAnyH_ready (rs := [12]) (by kernel_rfl) (by simp) ?_
    refine AllReadyH.cons (o := _) rfl (fun K hK => ?_) AllReadyH.nil
    go_simp
    refine hK.out _ _ b9 (fun hHeld => ?_)
    clear hK K hHeld
    refine wpAnyH_ready (rs := [13]) (by kernel_rfl) (by simp) ?_
    refine AllReadyH.cons (o := _) rfl (fun K hK => ?_) AllReadyH.nil
    go_simp
    refine hK.out _ _ b9 (fun hHeld => ?_)
    clear hK K hHeld
    refine wpAnyH_done (by kernel_rfl) ?_ _
    go_wp2_with fail
    go_ret
    exact ⟨by rw [hbb.out]; rfl, below_and B2 (Nat.le_refl _) b9⟩
  refine AllReadyH.cons (o := _) rfl (fun K hK => ?_) AllReadyH.nil
  go_simp
  have c1 := below_alloc w2.drew (.cells #[(.slice av nv cv)] 24)
  have q1 := RDL.out w2.drew hdw
  have b1 := below_and hdw (Nat.le_refl _) c1
  refine hK.out _ _ b1 (fun hHeld => ?_)
  clear hK K hHeld
  refine wpAnyH_ready (rs := [4]) (by kernel_rfl) (by simp) ?_
  refine AllReadyH.cons (o := _) rfl (fun K hK => ?_) AllReadyH.nil
  go_simp
  refine (HR.out (w2.drew.alloc (.cells #[(.slice av nv cv)] 24)) b1).mono ?_
  rintro e u2 ⟨rfl, c2⟩
  have q2 := q1.below c2
  have b2 := below_and b1 (Nat.le_refl _) c2
  try go_simp
  refine hK.out _ _ b2 (fun hHeld => ?_)
  clear hK K hHeld
  refine wpAnyH_ready (rs := [6]) (by kernel_rfl) (by simp) ?_
  refine AllReadyH.cons (o := _) rfl (fun K hK => ?_) AllReadyH.nil
  go_simp
  refine (HS.out u2 b2).mono ?_
  rintro e u3 ⟨gv, rfl, g3, c3⟩
  have q3 := q2.below c3
  have b3 := below_and b2 (Nat.le_refl _) c3
  try go_simp
  refine hK.out _ _ b3 (fun hHeld => ?_)
  clear hK K hHeld
  refine wpAnyH_ready (rs := [8]) (by kernel_rfl) (by simp) ?_
  refine AllReadyH.cons (o := _) rfl (fun K hK => ?_) AllReadyH.nil
  go_simp
  refine (HD.out u3 b3).mono ?_
  rintro e u4 ⟨rfl, c4⟩
  have q4 := q3.below c4
  have g4 := g3.below c4
  have b4 := below_and b3 (Nat.le_refl _) c4
  try go_simp
  refine hK.out _ _ b4 (fun hHeld => ?_)
  clear hK K hHeld
  refine wpAnyH_ready (rs := [11]) (by kernel_rfl) (by simp) ?_
  refine AllReadyH.cons (o := _) rfl (fun K hK => ?_) AllReadyH.nil
  go_simp
  refine (verify_any _ (repL i) _ (sgM m) (domS m) _ [seaB m] g4 q4 (domS_size m) HT.out (TT.out _ b4)).mono ?_
  rintro e u9 ⟨rfl, c9⟩
  have b9 := below_and b4 (Nat.le_refl _) c9
  generalize hbb : verL (repL i) (sgM m) (sL (domS m)) [seaB m] = bb
  replace hbb := (show Hid (verL (repL i) (sgM m) (sL (domS m)) [seaB m] = bb) from hbb)
  try go_simp
  refine hK.out _ _ b9 (fun hHeld => ?_)
  clear hK K hHeld
  refine wpAnyH_ready (rs := [12]) (by kernel_rfl) (by simp) ?_
  refine AllReadyH.cons (o := _) rfl (fun K hK => ?_) AllReadyH.nil
  go_simp
  refine hK.out _ _ b9 (fun hHeld => ?_)
  clear hK K hHeld
  refine wpAnyH_ready (rs := [13]) (by kernel_rfl) (by simp) ?_
  refine AllReadyH.cons (o := _) rfl (fun K hK => ?_) AllReadyH.nil
  go_simp
  refine hK.out _ _ b9 (fun hHeld => ?_)
  clear hK K hHeld
  refine wpAnyH_done (by kernel_rfl) ?_ _
  go_wp2_with fail
  go_ret
  exact ⟨by rw [hbb.out]; rfl, below_and B2 (Nat.le_refl _) b9⟩
end Go.Proofs.YtgbfmccecnfooaaGreatDoor
