/- Same, of messages that differ in their signature alone. Made by mk13n.py. -/
import Derived.Test.YtgbfmccecnfooaaGreatDoorCLAY
import Derived.Test.YtgbfmccecnfooaaGreatDoorCLBG
import Derived.Test.YtgbfmccecnfooaaGreatDoorCLAO
set_option linter.unusedSimpArgs false
set_option linter.unusedVariables false
namespace Go.Proofs.YtgbfmccecnfooaaGreatDoor
section
open Go.RowKit Oct
/-- Is it the signer's message? -/
def seaQ (m : PMsg) (i : Int) : Bool := if seaE m = 0 then verL (repL i) (sgM m) (sL (domS m)) [seaB m] else false
set_option maxRecDepth 10000 in
set_option maxHeartbeats 4000000 in
theorem sealed_any (w : World) (m : PMsg) (s : SV) (i : Int) (hs : SOk Any w m s) (hT : Tab w) : Calls Tryz.prog 31 #[.agg (mc m s).toArray, .int .i64 i] w fun e w' => e = .returned (.bool (seaQ m i)) ∧ Below w.heap.size w w' := by
  obtain ⟨w1, hw1, r1, B1⟩ := boxM w m s
  have hC := sealBody_any w1 m s (hs.below B1)
  unfold seaQ
  by_cases h0 : seaE m = 0
  case neg =>
    rw [if_neg h0]
    obtain ⟨E, hE⟩ : ∃ E, E = seaE m := ⟨_, rfl⟩
    rw [← hE] at hC h0
    clear hE
    go_enter Tryz.func31, Tryz.ntmps31
    go_upto_region 1 with fail
    rw [← hw1]
    clear hw1
    go_wp2_with (first
      | (refine wl_load rfl _ _ rfl w.heap.size rfl _ _ r1 _ Tryz.underlying72 rfl (by kernel_rfl) ?_)
      | (go_at_call 55; refine hC.mono ?_; rintro e w2 ⟨sv, rfl, o2, y2, f2, hb2⟩))
    have B2 := below_and B1 (Nat.le_refl _) hb2
    have hdw : Below w2.heap.size w2 w2.drew := ⟨rfl, rfl, rfl, Nat.le_refl _, fun _ _ => rfl⟩
    clear hC r1 hs o2 y2 f2 hb2 B1
    refine wp_region_held_drew (S := fun u => Below w2.heap.size w2 u) (by kernel_rfl) hdw (fun hHeld => ?_)
    clear hHeld
    refine wpAnyH_take (i := 0) (v := .int .i64 E) rfl (by kernel_rfl) (by kernel_rfl) (by kernel_rfl) (fun _ _ _ h => h) (Or.inl ⟨by kernel_rfl, fun u hSu => by go_simp⟩) hdw ?_
    simp only [Act.put, List.setIfInBounds_toArray, List.set_cons_zero, List.set_cons_succ]
    refine wpAnyH_take (i := 1) (v := .bool false) rfl (by kernel_rfl) (by kernel_rfl) (by kernel_rfl) (fun _ _ _ h => h) (Or.inl ⟨by kernel_rfl, fun u hSu => by go_simp⟩) hdw ?_
    simp only [Act.put, List.setIfInBounds_toArray, List.set_cons_zero, List.set_cons_succ]
    refine wpAnyH_take (i := 2) (v := .bool false) rfl (by kernel_rfl) (by kernel_rfl) (by kernel_rfl) (fun _ _ _ h => h) (Or.inl ⟨by kernel_rfl, fun u hSu => by go_simp⟩) hdw ?_
    simp only [Act.put, List.setIfInBounds_toArray, List.set_cons_zero, List.set_cons_succ]
    refine wpAnyH_take (i := 3) (v := undef) rfl (by kernel_rfl) (by kernel_rfl) (by kernel_rfl) (fun _ _ _ h => h) (Or.inr ⟨by kernel_rfl, rfl⟩) hdw ?_
    simp only [Act.put, List.setIfInBounds_toArray, List.set_cons_zero, List.set_cons_succ]
    refine wpAnyH_take (i := 4) (v := undef) rfl (by kernel_rfl) (by kernel_rfl) (by kernel_rfl) (fun _ _ _ h => h) (Or.inr ⟨by kernel_rfl, rfl⟩) hdw ?_
    simp only [Act.put, List.setIfInBounds_toArray, List.set_cons_zero, List.set_cons_succ]
    refine wpAnyH_take (i := 5) (v := undef) rfl (by kernel_rfl) (by kernel_rfl) (by kernel_rfl) (fun _ _ _ h => h) (Or.inr ⟨by kernel_rfl, rfl⟩) hdw ?_
    simp only [Act.put, List.setIfInBounds_toArray, List.set_cons_zero, List.set_cons_succ]
    refine wpAnyH_take (i := 6) (v := undef) rfl (by kernel_rfl) (by kernel_rfl) (by kernel_rfl) (fun _ _ _ h => h) (Or.inr ⟨by kernel_rfl, rfl⟩) hdw ?_
    simp only [Act.put, List.setIfInBounds_toArray, List.set_cons_zero, List.set_cons_succ]
    refine wpAnyH_take (i := 7) (v := undef) rfl (by kernel_rfl) (by kernel_rfl) (by kernel_rfl) (fun _ _ _ h => h) (Or.inr ⟨by kernel_rfl, rfl⟩) hdw ?_
    simp only [Act.put, List.setIfInBounds_toArray, List.set_cons_zero, List.set_cons_succ]
    refine wpAnyH_take (i := 8) (v := undef) rfl (by kernel_rfl) (by kernel_rfl) (by kernel_rfl) (fun _ _ _ h => h) (Or.inr ⟨by kernel_rfl, rfl⟩) hdw ?_
    simp only [Act.put, List.setIfInBounds_toArray, List.set_cons_zero, List.set_cons_succ]
    refine wpAnyH_take (i := 9) (v := undef) rfl (by kernel_rfl) (by kernel_rfl) (by kernel_rfl) (fun _ _ _ h => h) (Or.inr ⟨by kernel_rfl, rfl⟩) hdw ?_
    simp only [Act.put, List.setIfInBounds_toArray, List.set_cons_zero, List.set_cons_succ]
    refine wpAnyH_take (i := 10) (v := undef) rfl (by kernel_rfl) (by kernel_rfl) (by kernel_rfl) (fun _ _ _ h => h) (Or.inr ⟨by kernel_rfl, rfl⟩) hdw ?_
    simp only [Act.put, List.setIfInBounds_toArray, List.set_cons_zero, List.set_cons_succ]
    refine wpAnyH_take (i := 11) (v := undef) rfl (by kernel_rfl) (by kernel_rfl) (by kernel_rfl) (fun _ _ _ h => h) (Or.inr ⟨by kernel_rfl, rfl⟩) hdw ?_
    simp only [Act.put, List.setIfInBounds_toArray, List.set_cons_zero, List.set_cons_succ]
    refine wpAnyH_ready (rs := [12]) (by kernel_rfl) (by simp) ?_
    refine AllReadyH.cons (o := _) rfl (fun K hK => ?_) AllReadyH.nil
    go_simp
    refine hK.out _ _ hdw (fun hHeld => ?_)
    clear hK K hHeld
    refine wpAnyH_ready (rs := [13]) (by kernel_rfl) (by simp) ?_
    refine AllReadyH.cons (o := _) rfl (fun K hK => ?_) AllReadyH.nil
    go_simp
    refine hK.out _ _ hdw (fun hHeld => ?_)
    clear hK K hHeld
    refine wpAnyH_done (by kernel_rfl) ?_ _
    go_wp2_with fail
    go_ret
    exact ⟨rfl, below_and B2 (Nat.le_refl _) hdw⟩
  rw [if_pos h0]
  rw [h0] at hC
  clear h0
  go_enter Tryz.func31, Tryz.ntmps31
  go_upto_region 1 with fail
  rw [← hw1]
  clear hw1
  go_wp2_with (first
    | (refine wl_load rfl _ _ rfl w.heap.size rfl _ _ r1 _ Tryz.underlying72 rfl (by kernel_rfl) ?_)
    | (go_at_call 55; refine hC.mono ?_; rintro e w2 ⟨sv, rfl, o2, y2, f2, hb2⟩))
  have B2 := below_and B1 (Nat.le_refl _) hb2
  have r2 := r1.below hb2
  have hs2 := hs.below B2
  have hdw : Below w2.heap.size w2 w2.drew := ⟨rfl, rfl, rfl, Nat.le_refl _, fun _ _ => rfl⟩
  have R2 := o2.rd y2
  obtain ⟨av, cv, rfl, hcv⟩ := R2.form
  obtain ⟨nv, hnv⟩ : ∃ nv, nv = (seaB m).length := ⟨_, rfl⟩
  rw [← hnv] at R2 o2
  rw [← hnv]
  have HR := (show Hid (∀ u, Below w2.heap.size w2 u → Calls Tryz.prog 57 #[.int .i64 i] u fun e w' => e = .returned (.int .i64 (repL i)) ∧ Below u.heap.size u w') from fun u _ => (replica_any u i).mono fun e w' h => ⟨h.1, h.2 ▸ Below.refl _ _⟩)
  have HD := (show Hid (∀ u, Below w2.heap.size w2 u → Calls Tryz.prog 59 #[.agg (mc m s).toArray] u fun e w' => e = .returned (.string (domS m)) ∧ Below u.heap.size u w') from fun u hu => sealDomain_any Any u m s (hs2.below hu))
  have HS := (show Hid (∀ u, Below w2.heap.size w2 u → Calls Tryz.prog 58 #[.agg (mc m s).toArray] u fun e w' => ∃ v, e = .returned v ∧ Rd w' v (sgM m) ∧ Below u.heap.size u w') from fun u hu => (sigOf_any Any u m s (hs2.below hu)).mono fun e w' h => by obtain ⟨v, h1, h2, h3⟩ := h; exact ⟨v, h1, h2.1, h3⟩)
  have RDL := (show Hid (∀ u, Below w2.heap.size w2 u → Rdl (u.alloc (.cells #[.slice av nv cv] 24)) (.slice (some ⟨u.heap.size, 0, none⟩) 1 1) [seaB m]) from fun u hu => rdlS_one u (.slice av nv cv) _ (R2.below hu))
  have HT := (show Hid (tot [seaB m] ≤ 4000000) by show _ ≤ _; have := seaB_len m; simp only [tot]; omega)
  have HG := (show Hid (∀ u, Below w2.heap.size w2 u → u.rangeAt w.heap.size 0 (mc m s)) from fun u hu j x hx => by rw [Nat.zero_add]; exact (r2.below hu).cell hx)
  have TT := (show Hid (∀ u, Below w2.heap.size w2 u → Tab u) from fun u hu => hT.below (below_and B2 (Nat.le_refl _) hu))
  clear hC r1 r2 hs2 hs R2 o2 y2 f2 hb2 B1 hcv hnv hT
  refine wp_region_held_drew (S := fun u => Below w2.heap.size w2 u) (by kernel_rfl) hdw (fun hHeld => ?_)
  clear hHeld
  refine wpAnyH_take (i := 0) (v := .int .i64 0) rfl (by kernel_rfl) (by kernel_rfl) (by kernel_rfl) (fun _ _ _ h => h) (Or.inl ⟨by kernel_rfl, fun u hSu => by go_simp⟩) hdw ?_
  simp only [Act.put, List.setIfInBounds_toArray, List.set_cons_zero, List.set_cons_succ]
  refine wpAnyH_take (i := 1) (v := .bool true) rfl (by kernel_rfl) (by kernel_rfl) (by kernel_rfl) (fun _ _ _ h => h) (Or.inl ⟨by kernel_rfl, fun u hSu => by go_simp⟩) hdw ?_
  simp only [Act.put, List.setIfInBounds_toArray, List.set_cons_zero, List.set_cons_succ]
  refine wpAnyH_take (i := 2) (v := .bool true) rfl (by kernel_rfl) (by kernel_rfl) (by kernel_rfl) (fun _ _ _ h => h) (Or.inl ⟨by kernel_rfl, fun u hSu => by go_simp⟩) hdw ?_
  simp only [Act.put, List.setIfInBounds_toArray, List.set_cons_zero, List.set_cons_succ]
  refine wpAnyH_take (i := 3) (v := .int .i64 i) rfl (by kernel_rfl) (by kernel_rfl) (by kernel_rfl) (fun _ _ _ h => h) (Or.inl ⟨by kernel_rfl, fun u hSu => by go_simp⟩) hdw ?_
  simp only [Act.put, List.setIfInBounds_toArray, List.set_cons_zero, List.set_cons_succ]
  refine wpAnyH_take (i := 9) (v := (.slice av nv cv)) rfl (by kernel_rfl) (by kernel_rfl) (by kernel_rfl) (fun _ _ _ h => h) (Or.inl ⟨by kernel_rfl, fun u hSu => by go_simp⟩) hdw ?_
  simp only [Act.put, List.setIfInBounds_toArray, List.set_cons_zero, List.set_cons_succ]
  refine wpAnyH_take (i := 5) (v := .agg (mc m s).toArray) rfl (by kernel_rfl) (by kernel_rfl) (by kernel_rfl) (fun _ _ _ h => h) (yieldsIf_load_mid (by kernel_rfl) _ _ rfl w.heap.size 0 rfl (mc m s) _ HG.out Tryz.underlying72 rfl (by kernel_rfl)) hdw ?_
  simp only [Act.put, List.setIfInBounds_toArray, List.set_cons_zero, List.set_cons_succ]
  refine wpAnyH_take (i := 7) (v := .agg (mc m s).toArray) rfl (by kernel_rfl) (by kernel_rfl) (by kernel_rfl) (fun _ _ _ h => h) (yieldsIf_load_mid (by kernel_rfl) _ _ rfl w.heap.size 0 rfl (mc m s) _ HG.out Tryz.underlying72 rfl (by kernel_rfl)) hdw ?_
  simp only [Act.put, List.setIfInBounds_toArray, List.set_cons_zero, List.set_cons_succ]
  refine wpAnyH_ready (rs := [4, 10]) (by kernel_rfl) (by simp) ?_
  refine AllReadyH.cons (o := _) rfl (fun K hK => ?_) ?_
  · skip
    go_simp
    refine (HR.out w2.drew hdw).mono ?_
    rintro e u1 ⟨rfl, c1⟩
    have b1 := below_and hdw (Nat.le_refl _) c1
    try go_simp
    refine hK.out _ _ b1 (fun hHeld => ?_)
    clear hK K hHeld
    refine wpAnyH_ready (rs := [6, 10]) (by kernel_rfl) (by simp) ?_
    refine AllReadyH.cons (o := _) rfl (fun K hK => ?_) ?_
    · skip
      go_simp
      refine (HS.out u1 b1).mono ?_
      rintro e u2 ⟨gv, rfl, g2, c2⟩
      have b2 := below_and b1 (Nat.le_refl _) c2
      try go_simp
      refine hK.out _ _ b2 (fun hHeld => ?_)
      clear hK K hHeld
      refine wpAnyH_ready (rs := [8, 10]) (by kernel_rfl) (by simp) ?_
      refine AllReadyH.cons (o := _) rfl (fun K hK => ?_) ?_
      · skip
        go_simp
        refine (HD.out u2 b2).mono ?_
        rintro e u3 ⟨rfl, c3⟩
        have g3 := g2.below c3
        have b3 := below_and b2 (Nat.le_refl _) c3
        try go_simp
        refine hK.out _ _ b3 (fun hHeld => ?_)
        clear hK K hHeld
        refine wpAnyH_ready (rs := [10]) (by kernel_rfl) (by simp) ?_
        refine AllReadyH.cons (o := _) rfl (fun K hK => ?_) AllReadyH.nil
        go_simp
        have c4 := below_alloc u3 (.cells #[(.slice av nv cv)] 24)
        have q4 := RDL.out u3 b3
        have g4 := g3.below c4
        have b4 := below_and b3 (Nat.le_refl _) c4
        refine hK.out _ _ b4 (fun hHeld => ?_)
        clear hK K hHeld
        refine wpAnyH_ready (rs := [11]) (by kernel_rfl) (by simp) ?_
        refine AllReadyH.cons (o := _) rfl (fun K hK => ?_) AllReadyH.nil
        go_simp
        refine (verify_any _ (repL i) _ (sgM m) (domS m) _ [seaB m] g4 q4 (domS_size m) HT.out (TT.out _ b4)).mono ?_
        rintro e u9 ⟨rfl, c9⟩
        have b9 := below_and b4 (Nat.le_refl _) c9
        generalize hbb : verL (repL i) (sgM m) (sL (domS m)) [seaB m] = bb
        replace hbb := (show Hid (verL (repL i) (sgM m) (sL (domS m)) [seaB m] = bb) from hbb)
        try go_simp
        refine hK.out _ _ b9 (fun hHeld => ?_)
        clear hK K hHeld
        refine wpAnyH_ready (rs := [12]) (by kernel_rfl) (by simp) ?_
        refine AllReadyH.cons (o := _) rfl (fun K hK => ?_) AllReadyH.nil
        go_simp
        refine hK.out _ _ b9 (fun hHeld => ?_)
        clear hK K hHeld
        refine wpAnyH_ready (rs := [13]) (by kernel_rfl) (by simp) ?_
        refine AllReadyH.cons (o := _) rfl (fun K hK => ?_) AllReadyH.nil
        go_simp
        refine hK.out _ _ b9 (fun hHeld => ?_)
        clear hK K hHeld
        refine wpAnyH_done (by kernel_rfl) ?_ _
        go_wp2_with fail
        go_ret
        exact ⟨by rw [hbb.out]; rfl, below_and B2 (Nat.le_refl _) b9⟩
      refine AllReadyH.cons (o := _) rfl (fun K hK => ?_) AllReadyH.nil
      go_simp
      have c3 := below_alloc u2 (.cells #[(.slice av nv cv)] 24)
      have q3 := RDL.out u2 b2
      have g3 := g2.below c3
      have b3 := below_and b2 (Nat.le_refl _) c3
      refine hK.out _ _ b3 (fun hHeld => ?_)
      clear hK K hHeld
      refine wpAnyH_ready (rs := [8]) (by kernel_rfl) (by simp) ?_
      refine AllReadyH.cons (o := _) rfl (fun K hK => ?_) AllReadyH.nil
      go_simp
      refine (HD.out (u2.alloc (.cells #[(.slice av nv cv)] 24)) b3).mono ?_
      rintro e u4 ⟨rfl, c4⟩
      have q4 := q3.below c4
      have g4 := g3.below c4
      have b4 := below_and b3 (Nat.le_refl _) c4
      try go_simp
      refine hK.out _ _ b4 (fun hHeld => ?_)
      clear hK K hHeld
      refine wpAnyH_ready (rs := [11]) (by kernel_rfl) (by simp) ?_
      refine AllReadyH.cons (o := _) rfl (fun K hK => ?_) AllReadyH.nil
      go_simp
      refine (verify_any _ (repL i) _ (sgM m) (domS m) _ [seaB m] g4 q4 (domS_size m) HT.out (TT.out _ b4)).mono ?_
      rintro e u9 ⟨rfl, c9⟩
      have b9 := below_and b4 (Nat.le_refl _) c9
      generalize hbb : verL (repL i) (sgM m) (sL (domS m)) [seaB m] = bb
      replace hbb := (show Hid (verL (repL i) (sgM m) (sL (domS m)) [seaB m] = bb) from hbb)
      try go_simp
      refine hK.out _ _ b9 (fun hHeld => ?_)
      clear hK K hHeld
      refine wpAnyH_ready (rs := [12]) (by kernel_rfl) (by simp) ?_
      refine AllReadyH.cons (o := _) rfl (fun K hK => ?_) AllReadyH.nil
      go_simp
      refine hK.out _ _ b9 (fun hHeld => ?_)
      clear hK K hHeld
      refine wpAnyH_ready (rs := [13]) (by kernel_rfl) (by simp) ?_
      refine AllReadyH.cons (o := _) rfl (fun K hK => ?_) AllReadyH.nil
      go_simp
      refine hK.out _ _ b9 (fun hHeld => ?_)
      clear hK K hHeld
      refine wpAnyH_done (by kernel_rfl) ?_ _
      go_wp2_with fail
      go_ret
      exact ⟨by rw [hbb.out]; rfl, below_and B2 (Nat.le_refl _) b9⟩
    refine AllReadyH.cons (o := _) rfl (fun K hK => ?_) AllReadyH.nil
    go_simp
    have c2 := below_alloc u1 (.cells #[(.slice av nv cv)] 24)
    have q2 := RDL.out u1 b1
    have b2 := below_and b1 (Nat.le_refl _) c2
    refine hK.out _ _ b2 (fun hHeld => ?_)
    clear hK K hHeld
    refine wpAnyH_ready (rs := [6]) (by kernel_rfl) (by simp) ?_
    refine AllReadyH.cons (o := _) rfl (fun K hK => ?_) AllReadyH.nil
    go_simp
    refine (HS.out (u1.alloc (.cells #[(.slice av nv cv)] 24)) b2).mono ?_
    rintro e u3 ⟨gv, rfl, g3, c3⟩
    have q3 := q2.below c3
    have b3 := below_and b2 (Nat.le_refl _) c3
    try go_simp
    refine hK.out _ _ b3 (fun hHeld => ?_)
    clear hK K hHeld
    refine wpAnyH_ready (rs := [8]) (by kernel_rfl) (by simp) ?_
    refine AllReadyH.cons (o := _) rfl (fun K hK => ?_) AllReadyH.nil
    go_simp
    refine (HD.out u3 b3).mono ?_
    rintro e u4 ⟨rfl, c4⟩
    have q4 := q3.below c4
    have g4 := g3.below c4
    have b4 := below_and b3 (Nat.le_refl _) c4
    try go_simp
    refine hK.out _ _ b4 (fun hHeld => ?_)
    clear hK K hHeld
    refine wpAnyH_ready (rs := [11]) (by kernel_rfl) (by simp) ?_
    refine AllReadyH.cons (o := _) rfl (fun K hK => ?_) AllReadyH.nil
    go_simp
    refine (verify_any _ (repL i) _ (sgM m) (domS m) _ [seaB m] g4 q4 (domS_size m) HT.out (TT.out _ b4)).mono ?_
    rintro e u9 ⟨rfl, c9⟩
    have b9 := below_and b4 (Nat.le_refl _) c9
    generalize hbb : verL (repL i) (sgM m) (sL (domS m)) [seaB m] = bb
    replace hbb := (show Hid (verL (repL i) (sgM m) (sL (domS m)) [seaB m] = bb) from hbb)
    try go_simp
    refine hK.out _ _ b9 (fun hHeld => ?_)
    clear hK K hHeld
    refine wpAnyH_ready (rs := [12]) (by kernel_rfl) (by simp) ?_
    refine AllReadyH.cons (o := _) rfl (fun K hK => ?_) AllReadyH.nil
    go_simp
    refine hK.out _ _ b9 (fun hHeld => ?_)
    clear hK K hHeld
    refine wpAnyH_ready (rs := [13]) (by kernel_rfl) (by simp) ?_
    refine AllReadyH.cons (o := _) rfl (fun K hK => ?_) AllReadyH.nil
    go_simp
    refine hK.out _ _ b9 (fun hHeld => ?_)
    clear hK K hHeld
    refine wpAnyH_done (by kernel_rfl) ?_ _
    go_wp2_with fail
    go_ret
    exact ⟨by rw [hbb.out]; rfl, below_and B2 (Nat.le_refl _) b9⟩
  refine AllReadyH.cons (o := _) rfl (fun K hK => ?_) AllReadyH.nil
  go_simp
  have c1 := below_alloc w2.drew (.cells #[(.slice av nv cv)] 24)
  have q1 := RDL.out w2.drew hdw
  have b1 := below_and hdw (Nat.le_refl _) c1
  refine hK.out _ _ b1 (fun hHeld => ?_)
  clear hK K hHeld
  refine wpAnyH_ready (rs := [4]) (by kernel_rfl) (by simp) ?_
  refine AllReadyH.cons (o := _) rfl (fun K hK => ?_) AllReadyH.nil
  go_simp
  refine (HR.out (w2.drew.alloc (.cells #[(.slice av nv cv)] 24)) b1).mono ?_
  rintro e u2 ⟨rfl, c2⟩
  have q2 := q1.below c2
  have b2 := below_and b1 (Nat.le_refl _) c2
  try go_simp
  refine hK.out _ _ b2 (fun hHeld => ?_)
  clear hK K hHeld
  refine wpAnyH_ready (rs := [6]) (by kernel_rfl) (by simp) ?_
  refine AllReadyH.cons (o := _) rfl (fun K hK => ?_) AllReadyH.nil
  go_simp
  refine (HS.out u2 b2).mono ?_
  rintro e u3 ⟨gv, rfl, g3, c3⟩
  have q3 := q2.below c3
  have b3 := below_and b2 (Nat.le_refl _) c3
  try go_simp
  refine hK.out _ _ b3 (fun hHeld => ?_)
  clear hK K hHeld
  refine wpAnyH_ready (rs := [8]) (by kernel_rfl) (by simp) ?_
  refine AllReadyH.cons (o := _) rfl (fun K hK => ?_) AllReadyH.nil
  go_simp
  refine (HD.out u3 b3).mono ?_
  rintro e u4 ⟨rfl, c4⟩
  have q4 := q3.below c4
  have g4 := g3.below c4
  have b4 := below_and b3 (Nat.le_refl _) c4
  try go_simp
  refine hK.out _ _ b4 (fun hHeld => ?_)
  clear hK K hHeld
  refine wpAnyH_ready (rs := [11]) (by kernel_rfl) (by simp) ?_
  refine AllReadyH.cons (o := _) rfl (fun K hK => ?_) AllReadyH.nil
  go_simp
  refine (verify_any _ (repL i) _ (sgM m) (domS m) _ [seaB m] g4 q4 (domS_size m) HT.out (TT.out _ b4)).mono ?_
  rintro e u9 ⟨rfl, c9⟩
  have b9 := below_and b4 (Nat.le_refl _) c9
  generalize hbb : verL (repL i) (sgM m) (sL (domS m)) [seaB m] = bb
  replace hbb := (show Hid (verL (repL i) (sgM m) (sL (domS m)) [seaB m] = bb) from hbb)
  try go_simp
  refine hK.out _ _ b9 (fun hHeld => ?_)
  clear hK K hHeld
  refine wpAnyH_ready (rs := [12]) (by kernel_rfl) (by simp) ?_
  refine AllReadyH.cons (o := _) rfl (fun K hK => ?_) AllReadyH.nil
  go_simp
  refine hK.out _ _ b9 (fun hHeld => ?_)
  clear hK K hHeld
  refine wpAnyH_ready (rs := [13]) (by kernel_rfl) (by simp) ?_
  refine AllReadyH.cons (o := _) rfl (fun K hK => ?_) AllReadyH.nil
  go_simp
  refine hK.out _ _ b9 (fun hHeld => ?_)
  clear hK K hHeld
  refine wpAnyH_done (by kernel_rfl) ?_ _
  go_wp2_with fail
  go_ret
  exact ⟨by rw [hbb.out]; rfl, below_and B2 (Nat.le_refl _) b9⟩
end
section
open Go.RowKit Oct
set_option maxRecDepth 10000 in
set_option maxHeartbeats 4000000 in
/-- SameReport, of reports with unlike signatures. -/
theorem sameReport_ne (w : World) (r1 r2 : List Value) (x : PRep) (g : List Int) (hne : x.2.2.2.2.2.2 ≠ g) (h1 : RRep Any w r1 x) (h2 : RRep Any w r2 (repSig x g)) :
    Calls Tryz.prog 10 #[.agg r1.toArray, .agg r2.toArray] w fun e w' => e = .returned (.bool false) ∧ Below w.heap.size w w' := by
  obtain ⟨d1, s1, p1, g1, rfl, hd1, hs1, hp1, hg1⟩ := h1
  obtain ⟨d2, s2, p2, g2, e2', hd2', hs2', hp2', hg2'⟩ := h2
  have e2 : r2 = [.int .i64 x.1.1, .int .i64 x.1.2, .int .i64 x.2.1, .int .i64 x.2.2.1, d2, s2, p2, g2] := e2'
  have hd2 : RT Any w d2 x.2.2.2.1 := hd2'
  have hs2 : RL RVote 2 Any w s2 x.2.2.2.2.1 := hs2'
  have hp2 : RL RPrep 8 Any w p2 x.2.2.2.2.2.1 := hp2'
  have hg2 : RT Any w g2 g := hg2'
  clear e2' hd2' hs2' hp2' hg2'
  subst e2
  obtain ⟨ao1, ca1, rfl, hm1⟩ := hp1.form
  obtain ⟨ao2, ca2, rfl, hm2⟩ := hp2.form
  obtain ⟨w2, hw2⟩ : ∃ w2, w2 = (w.alloc (.cells #[.int .i64 x.1.1, .int .i64 x.1.2, .int .i64 x.2.1, .int .i64 x.2.2.1, d1, s1, .slice ao1 x.2.2.2.2.2.1.length ca1, g1] 28)).alloc (.cells #[.int .i64 x.1.1, .int .i64 x.1.2, .int .i64 x.2.1, .int .i64 x.2.2.1, d2, s2, .slice ao2 x.2.2.2.2.2.1.length ca2, g2] 28) := ⟨_, rfl⟩
  have ra : Row w2 w.heap.size 28 [.int .i64 x.1.1, .int .i64 x.1.2, .int .i64 x.2.1, .int .i64 x.2.2.1, d1, s1, .slice ao1 x.2.2.2.2.2.1.length ca1, g1] := by rw [hw2]; exact row_alloc (Row.new w 28 _) _
  have rb : Row w2 (w.heap.size + 1) 28 [.int .i64 x.1.1, .int .i64 x.1.2, .int .i64 x.2.1, .int .i64 x.2.2.1, d2, s2, .slice ao2 x.2.2.2.2.2.1.length ca2, g2] := by
    rw [hw2]
    have := Row.new (w.alloc (.cells #[.int .i64 x.1.1, .int .i64 x.1.2, .int .i64 x.2.1, .int .i64 x.2.2.1, d1, s1, .slice ao1 x.2.2.2.2.2.1.length ca1, g1] 28)) 28 [.int .i64 x.1.1, .int .i64 x.1.2, .int .i64 x.2.1, .int .i64 x.2.2.1, d2, s2, .slice ao2 x.2.2.2.2.2.1.length ca2, g2]
    simpa using this
  have hB : Below w.heap.size w w2 := by rw [hw2]; exact ((Below.refl _ w).alloc (Nat.le_refl _) _).alloc (by simp) _
  have sD := same_eq_any w2 d1 d2 _ (hd1.mv (Mv.below hB)).1 (hd2.mv (Mv.below hB)).1
  have sS := sameVotes_eq w2 s1 s2 _ (hs1.mv mov_vote hB.size (Mv.below hB)) (hs2.mv mov_vote hB.size (Mv.below hB))
  have hbn := balNe_eq x.1.1 x.1.2
  have hn1 : (x.2.1 != x.2.1) = false := by simp
  have hn2 : (x.2.2.1 != x.2.2.1) = false := by simp
  have hn3 : ((x.2.2.2.2.2.1.length : Int) != (x.2.2.2.2.2.1.length : Int)) = false := by simp
  go_enter Tryz.func10, Tryz.ntmps10
  go_upto_region 1 with fail
  rw [← hw2]
  clear hw2
  have a2 := ra.cell (j := 2) rfl; have a3 := ra.cell (j := 3) rfl; have a4 := ra.cell (j := 4) rfl; have a5 := ra.cell (j := 5) rfl
  have b2 := rb.cell (j := 2) rfl; have b3 := rb.cell (j := 3) rfl; have b4 := rb.cell (j := 4) rfl; have b5 := rb.cell (j := 5) rfl
  go_wp2_with (first
    | (refine wl_part rfl _ _ rfl w.heap.size 0 rfl _ _ ra [.int .i64 x.1.1, .int .i64 x.1.2] rfl _ Tryz.underlying23 rfl (by kernel_rfl) ?_)
    | (refine wl_part rfl _ _ rfl (w.heap.size + 1) 0 rfl _ _ rb [.int .i64 x.1.1, .int .i64 x.1.2] rfl _ Tryz.underlying23 rfl (by kernel_rfl) ?_))
  refine sD.mono ?_
  rintro e w3 ⟨rfl, rfl⟩
  clear sD
  go_wp2_with fail
  refine sS.mono ?_
  rintro e w4 ⟨rfl, hb4⟩
  have ra4 := ra.below hb4
  have rb4 := rb.below hb4
  have hB4 := below_and hB (Nat.le_refl _) hb4
  have a6 := ra4.cell (j := 6) rfl; have a7 := ra4.cell (j := 7) rfl
  have b6 := rb4.cell (j := 6) rfl; have b7 := rb4.cell (j := 7) rfl
  have sG := same_any w4 g1 g2 _ _ (hg1.mv (Mv.below hB4)).1 (hg2.mv (Mv.below hB4)).1
  rw [decide_eq_false hne] at sG
  clear sS a2 a3 a4 a5 b2 b3 b4 b5 ra rb hB hb4
  go_wp2_with fail
  refine sG.mono ?_
  rintro e w5 ⟨rfl, rfl⟩
  go_wp2_with fail
  go_ret
  exact ⟨rfl, hB4⟩
set_option maxRecDepth 20000 in
set_option maxHeartbeats 8000000 in
/-- Same, of messages whose own signatures are unlike. -/
theorem sameMsg_ns (w : World) (m : PMsg) (s t : SV) (g : List Int) (hne : m.sig ≠ g) (hs : SOk Any w m s) (ht : SOk Any w { m with sig := g } t) :
    Calls Tryz.prog 64 #[.agg (mc m s).toArray, .agg (mc m t).toArray] w fun e w' => e = .returned (.bool false) ∧ Below w.heap.size w w' := by
  obtain ⟨w2, hw2⟩ : ∃ w2, w2 = (w.alloc (.cells (mc m s).toArray 72)).alloc (.cells (mc m t).toArray 72) := ⟨_, rfl⟩
  have ra : Row w2 w.heap.size 72 (mc m s) := by rw [hw2]; exact row_alloc (Row.new w 72 _) _
  have rb : Row w2 (w.heap.size + 1) 72 (mc m t) := by
    rw [hw2]
    have := Row.new (w.alloc (.cells (mc m s).toArray 72)) 72 (mc m t)
    simpa using this
  have hB : Below w.heap.size w w2 := by rw [hw2]; exact ((Below.refl _ w).alloc (Nat.le_refl _) _).alloc (by simp) _
  have hbn := balNe_eq m.bal.1 m.bal.2
  have hnkind : (m.kind != m.kind) = false := by simp
  have hnslot : (m.slot != m.slot) = false := by simp
  have hnfrm : (m.frm != m.frm) = false := by simp
  have hnto : (m.to != m.to) = false := by simp
  have hnidx : (m.idx != m.idx) = false := by simp
  have hncnt : (m.cnt != m.cnt) = false := by simp
  go_enter Tryz.func64, Tryz.ntmps64
  go_upto_region 1 with fail
  rw [← hw2]
  clear hw2
  generalize hN0 : w.heap.size = N0 at ra rb ⊢
  generalize hN1 : N0 + 1 = N1 at rb ⊢
  have a0 := ra.cell (j := 0) rfl; have b0 := rb.cell (j := 0) rfl
  have a3 := ra.cell (j := 3) rfl; have b3 := rb.cell (j := 3) rfl
  have a4 := ra.cell (j := 4) rfl; have b4 := rb.cell (j := 4) rfl
  have a5 := ra.cell (j := 5) rfl; have b5 := rb.cell (j := 5) rfl
  have a6 := ra.cell (j := 6) rfl; have b6 := rb.cell (j := 6) rfl
  have a7 := ra.cell (j := 7) rfl; have b7 := rb.cell (j := 7) rfl
  go_wp2_with (first
    | (refine wl_part_w (by rfl) _ _ rfl N0 1 rfl _ _ ra [.int .i64 m.bal.1, .int .i64 m.bal.2] rfl _ Tryz.underlying23 rfl (by kernel_rfl) ?_)
    | (refine wl_part_w (by rfl) _ _ rfl N1 1 rfl _ _ rb [.int .i64 m.bal.1, .int .i64 m.bal.2] rfl _ Tryz.underlying23 rfl (by kernel_rfl) ?_)
    | (refine wl_part rfl _ _ rfl N0 8 rfl _ _ ra [.int .i64 m.req.1, .int .i64 m.req.2.1, s.o, s.g] rfl _ Tryz.underlying62 rfl (by kernel_rfl) ?_)
    | (refine wl_part rfl _ _ rfl N1 8 rfl _ _ rb [.int .i64 m.req.1, .int .i64 m.req.2.1, t.o, t.g] rfl _ Tryz.underlying62 rfl (by kernel_rfl) ?_))
  clear a0 a3 a4 a5 a6 a7 b0 b3 b4 b5 b6 b7 hbn hnkind hnslot hnfrm hnto hnidx hncnt
  refine (sameReq_eq w2 [.int .i64 m.req.1, .int .i64 m.req.2.1, s.o, s.g] [.int .i64 m.req.1, .int .i64 m.req.2.1, t.o, t.g] m.req ⟨_, _, rfl, hs.o.mv (Mv.below hB), hs.g.mv (Mv.below hB)⟩ ⟨_, _, rfl, ht.o.mv (Mv.below hB), ht.g.mv (Mv.below hB)⟩).mono ?_
  rintro e w3 ⟨rfl, hb3⟩
  have ra := ra.below hb3
  have rb := rb.below hb3
  have hB := below_and hB (Nat.le_refl _) hb3
  clear hb3
  go_wp2_with (first
    | (refine wl_part_w (by rfl) _ _ rfl N0 12 rfl _ _ ra [.int .i64 m.oth.1, .int .i64 m.oth.2.1, s.o', s.g'] rfl _ Tryz.underlying62 rfl (by kernel_rfl) ?_)
    | (refine wl_part_w (by rfl) _ _ rfl N1 12 rfl _ _ rb [.int .i64 m.oth.1, .int .i64 m.oth.2.1, t.o', t.g'] rfl _ Tryz.underlying62 rfl (by kernel_rfl) ?_))
  refine (sameReq_eq w3 [.int .i64 m.oth.1, .int .i64 m.oth.2.1, s.o', s.g'] [.int .i64 m.oth.1, .int .i64 m.oth.2.1, t.o', t.g'] m.oth ⟨_, _, rfl, hs.o'.mv (Mv.below hB), hs.g'.mv (Mv.below hB)⟩ ⟨_, _, rfl, ht.o'.mv (Mv.below hB), ht.g'.mv (Mv.below hB)⟩).mono ?_
  rintro e w4 ⟨rfl, hb4⟩
  have ra := ra.below hb4
  have rb := rb.below hb4
  have hB := below_and hB (Nat.le_refl _) hb4
  clear hb4
  have a16 := ra.cell (j := 16) rfl; have b16 := rb.cell (j := 16) rfl; have a17 := ra.cell (j := 17) rfl; have b17 := rb.cell (j := 17) rfl; have a18 := ra.cell (j := 18) rfl; have b18 := rb.cell (j := 18) rfl
  go_wp2_with fail
  refine (same_eq_any w4 s.d t.d _ (hs.d.mv (Mv.below hB)).1 (ht.d.mv (Mv.below hB)).1).mono ?_
  rintro e w5 ⟨rfl, rfl⟩
  go_wp2_with fail
  have sG := same_any w5 s.s t.s m.sig g (hs.s.mv (Mv.below hB)).1 (ht.s.mv (Mv.below hB)).1
  rw [decide_eq_false hne] at sG
  refine sG.mono ?_
  rintro e w5 ⟨rfl, rfl⟩
  go_wp2_with fail
  go_ret
  exact ⟨rfl, hB⟩
set_option maxRecDepth 20000 in
set_option maxHeartbeats 8000000 in
/-- Same, of messages whose one reports' signatures are unlike. -/
theorem sameMsg_nr (w : World) (m : PMsg) (s t : SV) (r : PRep) (g : List Int) (hr : m.reps = [r]) (hne : r.2.2.2.2.2.2 ≠ g) (hs : SOk Any w m s) (ht : SOk Any w { m with reps := [repSig r g] } t) :
    Calls Tryz.prog 64 #[.agg (mc m s).toArray, .agg (mc m t).toArray] w fun e w' => e = .returned (.bool false) ∧ Below w.heap.size w w' := by
  obtain ⟨w2, hw2⟩ : ∃ w2, w2 = (w.alloc (.cells (mc m s).toArray 72)).alloc (.cells (mc m t).toArray 72) := ⟨_, rfl⟩
  have ra : Row w2 w.heap.size 72 (mc m s) := by rw [hw2]; exact row_alloc (Row.new w 72 _) _
  have rb : Row w2 (w.heap.size + 1) 72 (mc m t) := by
    rw [hw2]
    have := Row.new (w.alloc (.cells (mc m s).toArray 72)) 72 (mc m t)
    simpa using this
  have hB : Below w.heap.size w w2 := by rw [hw2]; exact ((Below.refl _ w).alloc (Nat.le_refl _) _).alloc (by simp) _
  have htn : RL RInt 1 Any w t.n m.order := ht.n
  have htp : RL RReq 4 Any w t.p m.picks := ht.p
  have hbn := balNe_eq m.bal.1 m.bal.2
  have hnkind : (m.kind != m.kind) = false := by simp
  have hnslot : (m.slot != m.slot) = false := by simp
  have hnfrm : (m.frm != m.frm) = false := by simp
  have hnto : (m.to != m.to) = false := by simp
  have hnidx : (m.idx != m.idx) = false := by simp
  have hncnt : (m.cnt != m.cnt) = false := by simp
  go_enter Tryz.func64, Tryz.ntmps64
  go_upto_region 1 with fail
  rw [← hw2]
  clear hw2
  generalize hN0 : w.heap.size = N0 at ra rb ⊢
  generalize hN1 : N0 + 1 = N1 at rb ⊢
  have a0 := ra.cell (j := 0) rfl; have b0 := rb.cell (j := 0) rfl
  have a3 := ra.cell (j := 3) rfl; have b3 := rb.cell (j := 3) rfl
  have a4 := ra.cell (j := 4) rfl; have b4 := rb.cell (j := 4) rfl
  have a5 := ra.cell (j := 5) rfl; have b5 := rb.cell (j := 5) rfl
  have a6 := ra.cell (j := 6) rfl; have b6 := rb.cell (j := 6) rfl
  have a7 := ra.cell (j := 7) rfl; have b7 := rb.cell (j := 7) rfl
  go_wp2_with (first
    | (refine wl_part_w (by rfl) _ _ rfl N0 1 rfl _ _ ra [.int .i64 m.bal.1, .int .i64 m.bal.2] rfl _ Tryz.underlying23 rfl (by kernel_rfl) ?_)
    | (refine wl_part_w (by rfl) _ _ rfl N1 1 rfl _ _ rb [.int .i64 m.bal.1, .int .i64 m.bal.2] rfl _ Tryz.underlying23 rfl (by kernel_rfl) ?_)
    | (refine wl_part rfl _ _ rfl N0 8 rfl _ _ ra [.int .i64 m.req.1, .int .i64 m.req.2.1, s.o, s.g] rfl _ Tryz.underlying62 rfl (by kernel_rfl) ?_)
    | (refine wl_part rfl _ _ rfl N1 8 rfl _ _ rb [.int .i64 m.req.1, .int .i64 m.req.2.1, t.o, t.g] rfl _ Tryz.underlying62 rfl (by kernel_rfl) ?_))
  clear a0 a3 a4 a5 a6 a7 b0 b3 b4 b5 b6 b7 hbn hnkind hnslot hnfrm hnto hnidx hncnt
  refine (sameReq_eq w2 [.int .i64 m.req.1, .int .i64 m.req.2.1, s.o, s.g] [.int .i64 m.req.1, .int .i64 m.req.2.1, t.o, t.g] m.req ⟨_, _, rfl, hs.o.mv (Mv.below hB), hs.g.mv (Mv.below hB)⟩ ⟨_, _, rfl, ht.o.mv (Mv.below hB), ht.g.mv (Mv.below hB)⟩).mono ?_
  rintro e w3 ⟨rfl, hb3⟩
  have ra := ra.below hb3
  have rb := rb.below hb3
  have hB := below_and hB (Nat.le_refl _) hb3
  clear hb3
  go_wp2_with (first
    | (refine wl_part_w (by rfl) _ _ rfl N0 12 rfl _ _ ra [.int .i64 m.oth.1, .int .i64 m.oth.2.1, s.o', s.g'] rfl _ Tryz.underlying62 rfl (by kernel_rfl) ?_)
    | (refine wl_part_w (by rfl) _ _ rfl N1 12 rfl _ _ rb [.int .i64 m.oth.1, .int .i64 m.oth.2.1, t.o', t.g'] rfl _ Tryz.underlying62 rfl (by kernel_rfl) ?_))
  refine (sameReq_eq w3 [.int .i64 m.oth.1, .int .i64 m.oth.2.1, s.o', s.g'] [.int .i64 m.oth.1, .int .i64 m.oth.2.1, t.o', t.g'] m.oth ⟨_, _, rfl, hs.o'.mv (Mv.below hB), hs.g'.mv (Mv.below hB)⟩ ⟨_, _, rfl, ht.o'.mv (Mv.below hB), ht.g'.mv (Mv.below hB)⟩).mono ?_
  rintro e w4 ⟨rfl, hb4⟩
  have ra := ra.below hb4
  have rb := rb.below hb4
  have hB := below_and hB (Nat.le_refl _) hb4
  clear hb4
  have a16 := ra.cell (j := 16) rfl; have b16 := rb.cell (j := 16) rfl; have a17 := ra.cell (j := 17) rfl; have b17 := rb.cell (j := 17) rfl; have a18 := ra.cell (j := 18) rfl; have b18 := rb.cell (j := 18) rfl
  go_wp2_with fail
  refine (same_eq_any w4 s.d t.d _ (hs.d.mv (Mv.below hB)).1 (ht.d.mv (Mv.below hB)).1).mono ?_
  rintro e w5 ⟨rfl, rfl⟩
  go_wp2_with fail
  refine (same_eq_any _ s.s t.s _ (hs.s.mv (Mv.below hB)).1 (ht.s.mv (Mv.below hB)).1).mono ?_
  rintro e w5 ⟨rfl, rfl⟩
  go_wp2_with fail
  refine (sameVotes_eq _ s.c t.c _ (hs.c.mv mov_vote hB.size (Mv.below hB)) (ht.c.mv mov_vote hB.size (Mv.below hB))).mono ?_
  rintro e w6 ⟨rfl, hb6⟩
  have ra := ra.below hb6
  have rb := rb.below hb6
  have hB := below_and hB (Nat.le_refl _) hb6
  clear hb6 a16 b16 a17 b17 a18 b18
  have a19 := ra.cell (j := 19) rfl; have b19 := rb.cell (j := 19) rfl
  go_wp2_with fail
  refine (sameVotes_eq _ s.v t.v _ (hs.v.mv mov_vote hB.size (Mv.below hB)) (ht.v.mv mov_vote hB.size (Mv.below hB))).mono ?_
  rintro e w7 ⟨rfl, hb7⟩
  have ra := ra.below hb7
  have rb := rb.below hb7
  have hB := below_and hB (Nat.le_refl _) hb7
  clear hb7 a19 b19
  have a20 := ra.cell (j := 20) rfl; have b20 := rb.cell (j := 20) rfl; have a21 := ra.cell (j := 21) rfl; have b21 := rb.cell (j := 21) rfl; have a22 := ra.cell (j := 22) rfl; have b22 := rb.cell (j := 22) rfl
  obtain ⟨xn, cn, hvn, _⟩ := hs.n.form
  obtain ⟨yn, dn, hun, _⟩ := htn.form
  rw [hvn] at a20
  rw [hun] at b20
  have hnn : ((m.order.length : Int) != (m.order.length : Int)) = false := by simp
  have hlmn : (m.order.length : Int) ≤ 9223372036854775807 := rl_len hs.n
  obtain ⟨xp, cp, hvp, _⟩ := hs.p.form
  obtain ⟨yp, dp, hup, _⟩ := htp.form
  rw [hvp] at a21
  rw [hup] at b21
  have hnp : ((m.picks.length : Int) != (m.picks.length : Int)) = false := by simp
  have hlmp : (m.picks.length : Int) ≤ 9223372036854775807 := rl_len hs.p
  obtain ⟨xl, cl, hvl, _⟩ := hs.l.form
  obtain ⟨yl, dl, hul, _⟩ := ht.l.form
  have hlen1 : m.reps.length = 1 := by rw [hr]; rfl
  have hul : t.l = .slice yl m.reps.length dl := by rw [hlen1]; exact hul
  have HL1 := (show Hid (m.reps.length = 1) from hlen1)
  clear hlen1
  rw [hvl] at a22
  rw [hul] at b22
  have hnl : ((m.reps.length : Int) != (m.reps.length : Int)) = false := by simp
  have hlml : (m.reps.length : Int) ≤ 9223372036854775807 := rl_len hs.l
  have HA := (show Hid (Row w7 N0 72 (mc m s)) from ra)
  have HB := (show Hid (Row w7 N1 72 (mc m t)) from rb)
  have HVN := (show Hid _ from hvn); have HUN := (show Hid _ from hun); have HVP := (show Hid _ from hvp); have HUP := (show Hid _ from hup); have HVL := (show Hid _ from hvl); have HUL := (show Hid _ from hul)
  have h0w := ra.lt
  have h1w := rb.lt
  have HRR := (show Hid (m.reps = [r]) from hr)
  clear ra rb hvn hun hvp hup hvl hul hr
  go_wp2_with fail
  go_loopw [129] (fun i wr => ∃ q : Nat, q ≤ m.order.length ∧ i = .int .i64 q ∧ Below w7.heap.size w7 wr) (fun i _ => m.order.length - (intOf i).toNat)
  case atStart => exact ⟨0, by omega, rfl, Below.refl _ _⟩
  case round =>
    obtain ⟨q, hq, rfl, hbr⟩ := hrel
    have hBr := below_and hB (Nat.le_refl _) hbr
    by_cases hql : q < m.order.length
    · obtain ⟨a, ha⟩ : ∃ a, m.order[q]? = some a := ⟨_, List.getElem?_eq_getElem hql⟩
      obtain ⟨b1, o1, c1, hw1, _, _, _, hb1, hx1⟩ := hs.n.at (by omega)
      obtain ⟨b2, o2, c2, hw2, _, _, _, hb2, hx2⟩ := htn.at (by omega)
      rw [HVN.out] at hw1
      rw [HUN.out] at hw2
      injection hw1 with e1 e2 e3
      injection hw2 with f1 f2 f3
      subst e1 e3 f1 f3
      obtain ⟨r1, _, y1, hr1⟩ := hx1 q a ha
      obtain ⟨r2, _, y2, hr2⟩ := hx2 q a ha
      have hr1 : r1 = [.int .i64 a] := hr1
      have hr2 : r2 = [.int .i64 a] := hr2
      subst hr1 hr2
      have d0 := rangeAt_block y1 (hBr.block b1 hb1) 0 _ rfl
      have d1 := rangeAt_block y2 (hBr.block b2 hb2) 0 _ rfl
      simp only [Nat.mul_one, Nat.add_zero] at d0 d1
      have e20 := (hbr.cell (p := ⟨N0, 20, none⟩) h0w).trans a20
      have f20 := (hbr.cell (p := ⟨N1, 20, none⟩) h1w).trans b20
      have hna : (a != a) = false := by simp
      clear hx1 hx2 y1 y2 ha
      go_wp2_with fail
      go_quiet (fail)
      go_wp2_with fail
      go_roundw
      case rel => exact ⟨q + 1, by omega, by go_num, bel_dn hbr _⟩
      case measure => simp [intOf]; omega
    · have e21 := (hbr.cell (p := ⟨N0, 21, none⟩) h0w).trans a21
      go_wp2_with fail
      go_loopw [147] (fun i wr => ∃ q : Nat, q ≤ m.picks.length ∧ i = .int .i64 q ∧ Below w7.heap.size w7 wr) (fun i _ => m.picks.length - (intOf i).toNat)
      case atStart => exact ⟨0, by omega, rfl, hbr⟩
      case round =>
        clear hbr hBr e21 hql hq
        obtain ⟨q, hq, rfl, hbr⟩ := hrel
        have hBr := below_and hB (Nat.le_refl _) hbr
        by_cases hql : q < m.picks.length
        · obtain ⟨a, ha⟩ : ∃ a, m.picks[q]? = some a := ⟨_, List.getElem?_eq_getElem hql⟩
          obtain ⟨b1, o1, c1, hw1, _, _, _, hb1, hx1⟩ := hs.p.at (by omega)
          obtain ⟨b2, o2, c2, hw2, _, _, _, hb2, hx2⟩ := htp.at (by omega)
          rw [HVP.out] at hw1
          rw [HUP.out] at hw2
          injection hw1 with e1 e2 e3
          injection hw2 with f1 f2 f3
          subst e1 e3 f1 f3
          obtain ⟨r1, _, y1, hr1⟩ := hx1 q a ha
          obtain ⟨r2, _, y2, hr2⟩ := hx2 q a ha
          have hK := (show Hid (∀ u, Below w7.heap.size w7 u → Calls Tryz.prog 28 #[.agg r1.toArray, .agg r2.toArray] u fun e w' => e = .returned (.bool true) ∧ Below u.heap.size u w') from fun u hu => by
            have hbu := below_and hB (Nat.le_refl _) hu
            exact sameReq_eq u r1 r2 a (mov_req _ _ _ _ _ _ hr1 hbu.size (Mv.below hbu)) (mov_req _ _ _ _ _ _ hr2 hbu.size (Mv.below hbu)))
          obtain ⟨vo1, vg1, rfl, _, _⟩ := hr1
          obtain ⟨vo2, vg2, rfl, _, _⟩ := hr2
          have y1 := rangeAt_block y1 (hBr.block b1 hb1)
          have y2 := rangeAt_block y2 (hBr.block b2 hb2)
          have e21 := (hbr.cell (p := ⟨N0, 21, none⟩) h0w).trans a21
          have f21 := (hbr.cell (p := ⟨N1, 21, none⟩) h1w).trans b21
          have p0 := y1 0 _ rfl; have q0 := y2 0 _ rfl
          have p1 := y1 1 _ rfl; have q1 := y2 1 _ rfl
          have p2 := y1 2 _ rfl; have q2 := y2 2 _ rfl
          have p3 := y1 3 _ rfl; have q3 := y2 3 _ rfl
          simp only [Nat.add_zero] at p0 q0
          have hdr : Below w7.heap.size w7 wr.drew := hbr.trans ⟨rfl, rfl, rfl, Nat.le_refl _, fun _ _ => rfl⟩
          clear hx1 hx2 y1 y2 ha
          go_wp2_with fail
          have SK := (show Hid (∀ u, Below wr.heap.size wr u → u.cell? ⟨N0, 21, none⟩ = some (.slice (some ⟨b1, o1, none⟩) m.picks.length cp) ∧ u.cell? ⟨N1, 21, none⟩ = some (.slice (some ⟨b2, o2, none⟩) m.picks.length dp) ∧ u.cell? ⟨b1, o1 + q * 4, none⟩ = some (Value.int .i64 a.1) ∧ u.cell? ⟨b2, o2 + q * 4, none⟩ = some (Value.int .i64 a.1) ∧ u.cell? ⟨b1, o1 + q * 4 + 1, none⟩ = some (Value.int .i64 a.2.1) ∧ u.cell? ⟨b2, o2 + q * 4 + 1, none⟩ = some (Value.int .i64 a.2.1) ∧ u.cell? ⟨b1, o1 + q * 4 + 2, none⟩ = some (vo1) ∧ u.cell? ⟨b2, o2 + q * 4 + 2, none⟩ = some (vo2) ∧ u.cell? ⟨b1, o1 + q * 4 + 3, none⟩ = some (vg1) ∧ u.cell? ⟨b2, o2 + q * 4 + 3, none⟩ = some (vg2)) from fun u hu => ⟨keep_cell hu e21, keep_cell hu f21, keep_cell hu p0, keep_cell hu q0, keep_cell hu p1, keep_cell hu q1, keep_cell hu p2, keep_cell hu q2, keep_cell hu p3, keep_cell hu q3⟩)
          have hdw : Below wr.heap.size wr wr.drew := ⟨rfl, rfl, rfl, Nat.le_refl _, fun _ _ => rfl⟩
          go_region_held3 (fun u => u.cell? ⟨N0, 21, none⟩ = some (.slice (some ⟨b1, o1, none⟩) m.picks.length cp) ∧ u.cell? ⟨N1, 21, none⟩ = some (.slice (some ⟨b2, o2, none⟩) m.picks.length dp) ∧ u.cell? ⟨b1, o1 + q * 4, none⟩ = some (Value.int .i64 a.1) ∧ u.cell? ⟨b2, o2 + q * 4, none⟩ = some (Value.int .i64 a.1) ∧ u.cell? ⟨b1, o1 + q * 4 + 1, none⟩ = some (Value.int .i64 a.2.1) ∧ u.cell? ⟨b2, o2 + q * 4 + 1, none⟩ = some (Value.int .i64 a.2.1) ∧ u.cell? ⟨b1, o1 + q * 4 + 2, none⟩ = some (vo1) ∧ u.cell? ⟨b2, o2 + q * 4 + 2, none⟩ = some (vo2) ∧ u.cell? ⟨b1, o1 + q * 4 + 3, none⟩ = some (vg1) ∧ u.cell? ⟨b2, o2 + q * 4 + 3, none⟩ = some (vg2))
            (first | exact SK.out _ (by assumption) | go_keep)
            (first | (go_at_call 28; refine (hK.out _ hdr).mono ?_; rintro e w8 ⟨rfl, hb8⟩; have hb8w : Below wr.heap.size wr w8 := hdw.trans hb8))
          go_wp2_with fail
          go_roundw
          case rel => exact ⟨q + 1, by omega, by go_num, below_and hdr (Nat.le_refl _) hb8⟩
          case measure => simp [intOf]; omega
        · have e22 := (hbr.cell (p := ⟨N0, 22, none⟩) h0w).trans a22
          go_wp2_with fail
          go_loopw [166] (fun i wr => ∃ q : Nat, q ≤ 0 ∧ i = .int .i64 q ∧ Below w7.heap.size w7 wr) (fun i _ => m.reps.length - (intOf i).toNat)
          case atStart => exact ⟨0, by omega, rfl, hbr⟩
          case round =>
            clear hbr hBr e22 hql hq
            obtain ⟨q, hq, rfl, hbr⟩ := hrel
            have hBr := below_and hB (Nat.le_refl _) hbr
            by_cases hql : q < m.reps.length
            · obtain ⟨a, rfl⟩ : ∃ a, a = r := ⟨_, rfl⟩
              have hq0 : q = 0 := by have := HL1.out; omega
              have ha : m.reps[q]? = some a := by rw [HRR.out, hq0]; rfl
              have ha2 : ([repSig a g] : List PRep)[q]? = some (repSig a g) := by rw [hq0]; rfl
              clear hq0
              obtain ⟨b1, o1, c1, hw1, _, _, _, hb1, hx1⟩ := hs.l.at (by omega)
              obtain ⟨b2, o2, c2, hw2, _, _, _, hb2, hx2⟩ := ht.l.at (by simp)
              rw [HVL.out] at hw1
              have hw2 : t.l = .slice (some ⟨b2, o2, none⟩) m.reps.length c2 := by rw [HL1.out]; exact hw2
              rw [HUL.out] at hw2
              injection hw1 with e1 e2 e3
              injection hw2 with f1 f2 f3
              subst e1 e3 f1 f3
              obtain ⟨r1, _, y1, hr1⟩ := hx1 q a ha
              obtain ⟨r2, _, y2, hr2⟩ := hx2 q _ ha2
              have hK := (show Hid (∀ u, Below w7.heap.size w7 u → Calls Tryz.prog 10 #[.agg r1.toArray, .agg r2.toArray] u fun e w' => e = .returned (.bool false) ∧ Below u.heap.size u w') from fun u hu => by
                have hbu := below_and hB (Nat.le_refl _) hu
                exact sameReport_ne u r1 r2 a g hne (mov_rep _ _ _ _ _ _ hr1 hbu.size (Mv.below hbu)) (mov_rep _ _ _ _ _ _ hr2 hbu.size (Mv.below hbu)))
              obtain ⟨vd1, vs1, vp1, vg1, rfl, _, _, _, _⟩ := hr1
              obtain ⟨vd2, vs2, vp2, vg2, er2', _, _, _, _⟩ := hr2
              have er2 : r2 = [.int .i64 a.1.1, .int .i64 a.1.2, .int .i64 a.2.1, .int .i64 a.2.2.1, vd2, vs2, vp2, vg2] := er2'
              clear er2'
              subst er2
              have y1 := rangeAt_block y1 (hBr.block b1 hb1)
              have y2 := rangeAt_block y2 (hBr.block b2 hb2)
              have e22 := (hbr.cell (p := ⟨N0, 22, none⟩) h0w).trans a22
              have f22 := (hbr.cell (p := ⟨N1, 22, none⟩) h1w).trans b22
              have p0 := y1 0 _ rfl; have q0 := y2 0 _ rfl
              have p1 := y1 1 _ rfl; have q1 := y2 1 _ rfl
              have p2 := y1 2 _ rfl; have q2 := y2 2 _ rfl
              have p3 := y1 3 _ rfl; have q3 := y2 3 _ rfl
              have p4 := y1 4 _ rfl; have q4 := y2 4 _ rfl
              have p5 := y1 5 _ rfl; have q5 := y2 5 _ rfl
              have p6 := y1 6 _ rfl; have q6 := y2 6 _ rfl
              have p7 := y1 7 _ rfl; have q7 := y2 7 _ rfl
              simp only [Nat.add_zero] at p0 q0
              have hdr : Below w7.heap.size w7 wr.drew := hbr.trans ⟨rfl, rfl, rfl, Nat.le_refl _, fun _ _ => rfl⟩
              clear hx1 hx2 y1 y2 ha ha2
              go_wp2_with fail
              have SK := (show Hid (∀ u, Below wr.heap.size wr u → u.cell? ⟨N0, 22, none⟩ = some (.slice (some ⟨b1, o1, none⟩) m.reps.length cl) ∧ u.cell? ⟨N1, 22, none⟩ = some (.slice (some ⟨b2, o2, none⟩) m.reps.length dl) ∧ u.cell? ⟨b1, o1 + q * 8, none⟩ = some (Value.int .i64 a.1.1) ∧ u.cell? ⟨b2, o2 + q * 8, none⟩ = some (Value.int .i64 a.1.1) ∧ u.cell? ⟨b1, o1 + q * 8 + 1, none⟩ = some (Value.int .i64 a.1.2) ∧ u.cell? ⟨b2, o2 + q * 8 + 1, none⟩ = some (Value.int .i64 a.1.2) ∧ u.cell? ⟨b1, o1 + q * 8 + 2, none⟩ = some (Value.int .i64 a.2.1) ∧ u.cell? ⟨b2, o2 + q * 8 + 2, none⟩ = some (Value.int .i64 a.2.1) ∧ u.cell? ⟨b1, o1 + q * 8 + 3, none⟩ = some (Value.int .i64 a.2.2.1) ∧ u.cell? ⟨b2, o2 + q * 8 + 3, none⟩ = some (Value.int .i64 a.2.2.1) ∧ u.cell? ⟨b1, o1 + q * 8 + 4, none⟩ = some (vd1) ∧ u.cell? ⟨b2, o2 + q * 8 + 4, none⟩ = some (vd2) ∧ u.cell? ⟨b1, o1 + q * 8 + 5, none⟩ = some (vs1) ∧ u.cell? ⟨b2, o2 + q * 8 + 5, none⟩ = some (vs2) ∧ u.cell? ⟨b1, o1 + q * 8 + 6, none⟩ = some (vp1) ∧ u.cell? ⟨b2, o2 + q * 8 + 6, none⟩ = some (vp2) ∧ u.cell? ⟨b1, o1 + q * 8 + 7, none⟩ = some (vg1) ∧ u.cell? ⟨b2, o2 + q * 8 + 7, none⟩ = some (vg2)) from fun u hu => ⟨keep_cell hu e22, keep_cell hu f22, keep_cell hu p0, keep_cell hu q0, keep_cell hu p1, keep_cell hu q1, keep_cell hu p2, keep_cell hu q2, keep_cell hu p3, keep_cell hu q3, keep_cell hu p4, keep_cell hu q4, keep_cell hu p5, keep_cell hu q5, keep_cell hu p6, keep_cell hu q6, keep_cell hu p7, keep_cell hu q7⟩)
              have hdw : Below wr.heap.size wr wr.drew := ⟨rfl, rfl, rfl, Nat.le_refl _, fun _ _ => rfl⟩
              go_region_held3 (fun u => u.cell? ⟨N0, 22, none⟩ = some (.slice (some ⟨b1, o1, none⟩) m.reps.length cl) ∧ u.cell? ⟨N1, 22, none⟩ = some (.slice (some ⟨b2, o2, none⟩) m.reps.length dl) ∧ u.cell? ⟨b1, o1 + q * 8, none⟩ = some (Value.int .i64 a.1.1) ∧ u.cell? ⟨b2, o2 + q * 8, none⟩ = some (Value.int .i64 a.1.1) ∧ u.cell? ⟨b1, o1 + q * 8 + 1, none⟩ = some (Value.int .i64 a.1.2) ∧ u.cell? ⟨b2, o2 + q * 8 + 1, none⟩ = some (Value.int .i64 a.1.2) ∧ u.cell? ⟨b1, o1 + q * 8 + 2, none⟩ = some (Value.int .i64 a.2.1) ∧ u.cell? ⟨b2, o2 + q * 8 + 2, none⟩ = some (Value.int .i64 a.2.1) ∧ u.cell? ⟨b1, o1 + q * 8 + 3, none⟩ = some (Value.int .i64 a.2.2.1) ∧ u.cell? ⟨b2, o2 + q * 8 + 3, none⟩ = some (Value.int .i64 a.2.2.1) ∧ u.cell? ⟨b1, o1 + q * 8 + 4, none⟩ = some (vd1) ∧ u.cell? ⟨b2, o2 + q * 8 + 4, none⟩ = some (vd2) ∧ u.cell? ⟨b1, o1 + q * 8 + 5, none⟩ = some (vs1) ∧ u.cell? ⟨b2, o2 + q * 8 + 5, none⟩ = some (vs2) ∧ u.cell? ⟨b1, o1 + q * 8 + 6, none⟩ = some (vp1) ∧ u.cell? ⟨b2, o2 + q * 8 + 6, none⟩ = some (vp2) ∧ u.cell? ⟨b1, o1 + q * 8 + 7, none⟩ = some (vg1) ∧ u.cell? ⟨b2, o2 + q * 8 + 7, none⟩ = some (vg2))
                (first | exact SK.out _ (by assumption) | go_keep)
                (first | (go_at_call 10; refine (hK.out _ hdr).mono ?_; rintro e w8 ⟨rfl, hb8⟩; have hb8w : Below wr.heap.size wr w8 := hdw.trans hb8))
              go_wp2_with fail
              go_ret
              exact ⟨rfl, below_and hB (Nat.le_refl _) (below_and hdr (Nat.le_refl _) hb8)⟩
            · exfalso
              have := HL1.out
              omega
end
end Go.Proofs.YtgbfmccecnfooaaGreatDoor
