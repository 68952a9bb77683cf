/- Sealed messages: vote.Seal, the document's SealText. Made by mk13t.py. -/
import Derived.Test.YtijmecplechhgaaGreatDoorJ08
import Derived.Test.YtijmecplechhgaaGreatDoorJ11
import Derived.Test.YtijmecplechhgaaGreatDoorJ12
import Derived.Test.YtijmecplechhgaaGreatDoorJ17
import Derived.Deep.RegionHeld3
section
set_option linter.unusedVariables false
set_option linter.unusedSimpArgs false
namespace Go.Proofs.YtijmecplechhgaaGreatDoor
open Go.RowKit Oct

/-- The signature of a message. -/
def seaS (m : PMsg) (i : Int) : List Int := if seaE m = 0 then signL (repL i) (sL (domS m)) [seaB m] else []
theorem signLs_len (k : Int) (d : List Int) (ll : List (List Int)) : (signL k d ll).length ≤ 32 := by
  unfold signL
  split
  · exact Nat.le_of_eq (Sha.out_len _)
  · simp
theorem seaS_len (m : PMsg) (i : Int) : (seaS m i).length ≤ 32 := by
  unfold seaS
  split
  · exact signLs_len _ _ _
  · simp
theorem ws_szM {m : PMsg} (h : szM m) {g : List Int} (hg : g.length ≤ 32) : szM (wsM m g) := by
  have hgt : szT g := by unfold szT; omega
  unfold wsM
  split
  · refine ⟨h.req, h.oth, h.data, h.sig, h.cert, h.votes, h.order, h.picks, ?_⟩
    obtain ⟨h1, h2⟩ := h.reps
    refine ⟨by simpa using h1, fun x hx => ?_⟩
    obtain ⟨r, hr, rfl⟩ := List.mem_map.1 hx
    obtain ⟨q1, q2, q3, q4⟩ := h2 r hr
    exact ⟨q1, q2, q3, hgt⟩
  · exact ⟨h.req, h.oth, h.data, hgt, h.cert, h.votes, h.order, h.picks, h.reps⟩
set_option maxRecDepth 10000 in
set_option maxHeartbeats 8000000 in
theorem seal_any (w : World) (m : PMsg) (s : SV) (i : Int) (hs : SOk Any w m s) (hz : szM m) (hT : Tab w) : Calls Tryz.prog 6 #[.agg (mc m s).toArray, .int .i64 i] w fun e w' => ∃ s', e = .returned (.agg (mc (wsM m (seaS m i)) s').toArray) ∧ SOk (From w.heap.size) w' (wsM m (seaS m i)) s' ∧ Below w.heap.size w w' := by
  obtain ⟨w1, hw1⟩ : ∃ w1, w1 = (w.alloc (.cells (mc m s).toArray 32)).alloc (.cells #[.int .i64 0, .int .i64 0, .int .i64 0, .int .i64 0, .int .i64 0, .int .i64 0, .int .i64 0, .int .i64 0, .int .i64 0, .int .i64 0, .slice none 0 0, .slice none 0 0, .int .i64 0, .int .i64 0, .slice none 0 0, .slice none 0 0, .slice none 0 0, .slice none 0 0, .slice none 0 0, .slice none 0 0, .slice none 0 0, .slice none 0 0, .slice none 0 0] 32) := ⟨_, rfl⟩
  have r1 : Row w1 w.heap.size 32 (mc m s) := by rw [hw1]; exact rowA (Row.new w _ _) _
  have rr1 : Row w1 (w.heap.size + 1) 32 (mc zeroM sv0) := by
    have h1 : (w.alloc (.cells (mc m s).toArray 32)).heap.size = w.heap.size + 1 := by simp
    rw [hw1, ← h1]
    exact Row.new (w.alloc (.cells (mc m s).toArray 32)) 32 (mc zeroM sv0)
  have B1 : Below w.heap.size w w1 := by rw [hw1]; exact ((Below.refl _ w).alloc (Nat.le_refl _) _).alloc (by simp) _
  have hz2 : w.heap.size + 2 ≤ w1.heap.size := by rw [hw1]; simp
  have hC := sealBody_any w1 m s (hs.below B1)
  by_cases h0 : seaE m = 0
  case neg =>
    have hS : seaS m i = [] := by unfold seaS; rw [if_neg h0]
    have HS := (show Hid (seaS m i = []) from hS)
    obtain ⟨E, hE⟩ : ∃ E, E = seaE m := ⟨_, rfl⟩
    rw [← hE] at hC h0
    have h0' : (E == 0) = false := by simp [h0]
    clear hE hS
    go_enter Tryz.func6, Tryz.ntmps6
    go_upto_region 1 with fail
    rw [← hw1]
    clear hw1
    go_upto_region 5 with (first
      | (refine wl_load rfl _ _ rfl w.heap.size rfl _ _ r1 _ Tryz.underlying32 rfl (by kernel_rfl) ?_)
      | (go_at_call 19; refine hC.mono ?_; rintro e w2 ⟨sv, rfl, o2, y2, f2, hb2⟩))
    have B2 := below_and B1 (Nat.le_refl _) hb2
    have r2 := r1.below hb2
    have rr2 := rr1.below hb2
    have hs2 := hs.below B2
    have hz3 := Nat.le_trans hz2 hb2.size
    have tN : RT Any w2 (.slice none 0 0) (seaS m i) := by rw [HS.out]; exact RT.nil _ _
    go_wp2_with (first
      | (refine wl_load rfl _ _ rfl w.heap.size rfl _ _ r2 _ Tryz.underlying32 rfl (by kernel_rfl) ?_)
      | (go_at_call 24; refine (withSig_any Any w2 m s (.slice none 0 0) (seaS m i) hs2 tN).mono ?_; rintro e z1 ⟨s1, rfl, hs1, y1⟩; have hcl := cloneMsgS_any z1 (wsM m (seaS m i)) s1 (hs1.mv (Nat.le_refl _) Mv.any) (ws_szM hz (seaS_len m i)))
      | (go_at_call 23; refine hcl.mono ?_; rintro e z2 ⟨s2, rfl, hs2', y2⟩; have rz := (rr2.below y1).below y2; have hon2 := hs2'.one)
      | (refine wl_store rfl _ _ _ rfl (w.heap.size + 1) (mc (wsM m (seaS m i)) s2) rfl rfl _ _ rz rfl (by kernel_rfl) hon2 ?_; intro z3 rz3 hg3))
    have BZ := below_and (below_and B2 (Nat.le_refl _) y1) (Nat.le_refl _) y2
    have BZ3 := BZ.trans (grown_below hg3 BZ.size (fun k hk => by cases hk; omega))
    have hz1 : w.heap.size + 2 ≤ z1.heap.size := Nat.le_trans hz3 y1.size
    refine bodyPost_ret (v := .agg (mc (wsM m (seaS m i)) s2).toArray) (results_cell_row rfl _ _ (w.heap.size + 1) _ _ (0, 0) _ (by rfl) rz3.out Tryz.underlying32 rfl (by kernel_rfl)) rfl ?_
    exact ⟨s2, rfl, hs2'.mv hg3.size (Mv.from (L := w.heap.size) hg3 (by omega) (by omega)), BZ3⟩
  have HSS := (show Hid (seaS m i = signL (repL i) (sL (domS m)) [seaB m]) by show _ = _; unfold seaS; rw [if_pos h0])
  rw [h0] at hC
  clear h0
  go_enter Tryz.func6, Tryz.ntmps6
  go_upto_region 1 with fail
  rw [← hw1]
  clear hw1
  go_upto_region 4 with (first
    | (refine wl_load rfl _ _ rfl w.heap.size rfl _ _ r1 _ Tryz.underlying32 rfl (by kernel_rfl) ?_)
    | (go_at_call 19; refine hC.mono ?_; rintro e w2 ⟨sv, rfl, o2, y2, f2, hb2⟩))
  have B2 := below_and B1 (Nat.le_refl _) hb2
  have r2 := r1.below hb2
  have rr2 := rr1.below hb2
  have hs2 := hs.below B2
  have hz3 := Nat.le_trans hz2 hb2.size
  have R2 := o2.rd y2
  have TT := (show Hid (∀ u, Below w2.heap.size w2 u → Tab u) from fun u hu => hT.below (below_and B2 (Nat.le_refl _) hu))
  have hdw : Below w2.heap.size w2 w2.drew := ⟨rfl, rfl, rfl, Nat.le_refl _, fun _ _ => rfl⟩
  obtain ⟨av, cv, rfl, hcv⟩ := R2.form
  obtain ⟨nv, hnv⟩ : ∃ nv, nv = (seaB m).length := ⟨_, rfl⟩
  rw [← hnv] at R2
  rw [← hnv]
  have HR := (show Hid (∀ u, Below w2.heap.size w2 u → Calls Tryz.prog 21 #[.int .i64 i] u fun e w' => e = .returned (.int .i64 (repL i)) ∧ Below u.heap.size u w') from fun u _ => (replica_any u i).mono fun e w' h => ⟨h.1, h.2 ▸ Below.refl _ _⟩)
  have HD := (show Hid (∀ u, Below w2.heap.size w2 u → Calls Tryz.prog 22 #[.agg (mc m s).toArray] u fun e w' => e = .returned (.string (domS m)) ∧ Below u.heap.size u w') from fun u hu => sealDomain_any Any u m s (hs2.below hu))
  have RDL := (show Hid (∀ u, Below w2.heap.size w2 u → Rdl (u.alloc (.cells #[.slice av nv cv] 24)) (.slice (some ⟨u.heap.size, 0, none⟩) 1 1) [seaB m]) from fun u hu => rdlS_one u (.slice av nv cv) _ (R2.below hu))
  have HT := (show Hid (tot [seaB m] ≤ 4000000) by show _ ≤ _; have := seaB_len m; simp only [tot]; omega)
  have HG := (show Hid (∀ u, Below w2.heap.size w2 u → u.rangeAt w.heap.size 0 (mc m s)) from fun u hu j x hx => by rw [Nat.zero_add]; exact (r2.below hu).cell hx)
  have HRES := (show Hid (∀ u v, Below w2.heap.size w2 u → Own u 5 v (bc (signL (repL i) (sL (domS m)) [seaB m])) → RT Any u v (seaS m i) ∧ SOk Any u m s ∧ Row u w.heap.size 32 (mc m s) ∧ Row u (w.heap.size + 1) 32 (mc zeroM sv0) ∧ Below w.heap.size w u ∧ w.heap.size + 2 ≤ u.heap.size) from fun u v hu ho => ⟨by rw [HSS.out]; exact ⟨ho.rd (signL_byt _ _ _), fun _ _ _ => trivial⟩, hs2.below hu, r2.below hu, rr2.below hu, below_and B2 (Nat.le_refl _) hu, Nat.le_trans hz3 hu.size⟩)
  clear hC r1 r2 rr1 rr2 hs2 hs R2 o2 y2 f2 hb2 B1 hcv hnv hT
  try go_simp
  refine wp_region_held_drew (S := fun u => Below w2.heap.size w2 u) (by kernel_rfl) hdw (fun hHeld => ?_)
  clear hHeld
  refine wpAnyH_take (i := 0) (v := .int .i64 i) rfl (by kernel_rfl) (by kernel_rfl) (by kernel_rfl) (fun _ _ _ h => h) (Or.inl ⟨by rfl, fun u hSu => by go_simp⟩) hdw ?_
  simp only [Act.put, List.setIfInBounds_toArray, List.set_cons_zero, List.set_cons_succ]
  refine wpAnyH_take (i := 4) (v := (.slice av nv cv)) rfl (by kernel_rfl) (by kernel_rfl) (by kernel_rfl) (fun _ _ _ h => h) (Or.inl ⟨by rfl, fun u hSu => by go_simp⟩) hdw ?_
  simp only [Act.put, List.setIfInBounds_toArray, List.set_cons_zero, List.set_cons_succ]
  refine wpAnyH_take (i := 2) (v := .agg (mc m s).toArray) rfl (by kernel_rfl) (by kernel_rfl) (by kernel_rfl) (fun _ _ _ h => h) (yieldsIf_load_mid (by rfl) _ _ rfl w.heap.size 0 rfl (mc m s) _ HG.out Tryz.underlying32 rfl (by kernel_rfl)) hdw ?_
  simp only [Act.put, List.setIfInBounds_toArray, List.set_cons_zero, List.set_cons_succ]
  refine wpAnyH_ready (rs := [1, 5]) (by kernel_rfl) (by simp) ?_
  refine AllReadyH.cons (o := _) rfl (fun K hK => ?_) ?_
  · go_simp
    refine ((HR).out w2.drew hdw).mono ?_
    rintro e u1 ⟨rfl, c1⟩
    have b1 := below_and hdw (Nat.le_refl _) c1
    try go_simp
    refine hK.out _ _ b1 (fun hHeld => ?_)
    clear hK K hHeld
    refine wpAnyH_ready (rs := [3, 5]) (by kernel_rfl) (by simp) ?_
    refine AllReadyH.cons (o := _) rfl (fun K hK => ?_) ?_
    · go_simp
      refine ((HD).out u1 b1).mono ?_
      rintro e u2 ⟨rfl, c2⟩
      have b2 := below_and b1 (Nat.le_refl _) c2
      try go_simp
      refine hK.out _ _ b2 (fun hHeld => ?_)
      clear hK K hHeld
      refine wpAnyH_ready (rs := [5]) (by kernel_rfl) (by simp) ?_
      refine AllReadyH.cons (o := _) rfl (fun K hK => ?_) AllReadyH.nil
      go_simp
      have c3 := below_alloc u2 (.cells #[.slice av nv cv] 24)
      have b3 := below_and b2 (Nat.le_refl _) c3
      have q3 := RDL.out u2 b2
      refine hK.out _ _ b3 (fun hHeld => ?_)
      clear hK K hHeld
      refine wpAnyH_ready (rs := [6]) (by kernel_rfl) (by simp) ?_
      refine AllReadyH.cons (o := _) rfl (fun K hK => ?_) AllReadyH.nil
      go_simp
      refine (sign_any _ (repL i) (domS m) _ [seaB m] q3 (domS_size m) HT.out (TT.out _ b3)).mono ?_
      rintro e u9 ⟨v9, rfl, o9, f9, c9⟩
      have b9 := below_and b3 (Nat.le_refl _) c9
      have F9 := f9.mono b3.size
      try go_simp
      refine hK.out _ _ b9 (fun hHeld => ?_)
      clear hK K hHeld
      refine wpAnyH_ready (rs := [7]) (by kernel_rfl) (by simp) ?_
      refine AllReadyH.cons (o := _) rfl (fun K hK => ?_) AllReadyH.nil
      go_simp
      refine hK.out _ _ b9 (fun hHeld => ?_)
      clear hK K hHeld
      refine wpAnyH_done (by kernel_rfl) ?_ _
      obtain ⟨g1, g2, g3, g4, g5, g6⟩ := HRES.out u9 v9 b9 o9
      go_wp2_with (first
        | (refine wl_load rfl _ _ rfl w.heap.size rfl _ _ g3 _ Tryz.underlying32 rfl (by kernel_rfl) ?_)
        | (go_at_call 24; refine (withSig_any Any u9 m s v9 (seaS m i) g2 g1).mono ?_; rintro e z1 ⟨s1, rfl, hs1, y1⟩; have hcl := cloneMsgS_any z1 (wsM m (seaS m i)) s1 (hs1.mv (Nat.le_refl _) Mv.any) (ws_szM hz (seaS_len m i)))
        | (go_at_call 23; refine hcl.mono ?_; rintro e z2 ⟨s2, rfl, hs2', y2⟩; have rz := (g4.below y1).below y2; have hon2 := hs2'.one)
        | (refine wl_store rfl _ _ _ rfl (w.heap.size + 1) (mc (wsM m (seaS m i)) s2) rfl rfl _ _ rz rfl (by kernel_rfl) hon2 ?_; intro z3 rz3 hg3))
      have BZ := below_and (below_and g5 (Nat.le_refl _) y1) (Nat.le_refl _) y2
      have BZ3 := BZ.trans (grown_below hg3 BZ.size (fun k hk => by cases hk; omega))
      have hz1 : w.heap.size + 2 ≤ z1.heap.size := Nat.le_trans g6 y1.size
      refine bodyPost_ret (v := .agg (mc (wsM m (seaS m i)) s2).toArray) (results_cell_row rfl _ _ (w.heap.size + 1) _ _ (0, 0) _ (by rfl) rz3.out Tryz.underlying32 rfl (by kernel_rfl)) rfl ?_
      exact ⟨s2, rfl, hs2'.mv hg3.size (Mv.from (L := w.heap.size) hg3 (by omega) (by omega)), BZ3⟩
    refine AllReadyH.cons (o := _) rfl (fun K hK => ?_) AllReadyH.nil
    go_simp
    have c2 := below_alloc u1 (.cells #[.slice av nv cv] 24)
    have b2 := below_and b1 (Nat.le_refl _) c2
    have q2 := RDL.out u1 b1
    refine hK.out _ _ b2 (fun hHeld => ?_)
    clear hK K hHeld
    refine wpAnyH_ready (rs := [3]) (by kernel_rfl) (by simp) ?_
    refine AllReadyH.cons (o := _) rfl (fun K hK => ?_) AllReadyH.nil
    go_simp
    refine ((HD).out (u1.alloc (.cells #[.slice av nv cv] 24)) b2).mono ?_
    rintro e u3 ⟨rfl, c3⟩
    have b3 := below_and b2 (Nat.le_refl _) c3
    have q3 := q2.below c3
    try go_simp
    refine hK.out _ _ b3 (fun hHeld => ?_)
    clear hK K hHeld
    refine wpAnyH_ready (rs := [6]) (by kernel_rfl) (by simp) ?_
    refine AllReadyH.cons (o := _) rfl (fun K hK => ?_) AllReadyH.nil
    go_simp
    refine (sign_any _ (repL i) (domS m) _ [seaB m] q3 (domS_size m) HT.out (TT.out _ b3)).mono ?_
    rintro e u9 ⟨v9, rfl, o9, f9, c9⟩
    have b9 := below_and b3 (Nat.le_refl _) c9
    have F9 := f9.mono b3.size
    try go_simp
    refine hK.out _ _ b9 (fun hHeld => ?_)
    clear hK K hHeld
    refine wpAnyH_ready (rs := [7]) (by kernel_rfl) (by simp) ?_
    refine AllReadyH.cons (o := _) rfl (fun K hK => ?_) AllReadyH.nil
    go_simp
    refine hK.out _ _ b9 (fun hHeld => ?_)
    clear hK K hHeld
    refine wpAnyH_done (by kernel_rfl) ?_ _
    obtain ⟨g1, g2, g3, g4, g5, g6⟩ := HRES.out u9 v9 b9 o9
    go_wp2_with (first
      | (refine wl_load rfl _ _ rfl w.heap.size rfl _ _ g3 _ Tryz.underlying32 rfl (by kernel_rfl) ?_)
      | (go_at_call 24; refine (withSig_any Any u9 m s v9 (seaS m i) g2 g1).mono ?_; rintro e z1 ⟨s1, rfl, hs1, y1⟩; have hcl := cloneMsgS_any z1 (wsM m (seaS m i)) s1 (hs1.mv (Nat.le_refl _) Mv.any) (ws_szM hz (seaS_len m i)))
      | (go_at_call 23; refine hcl.mono ?_; rintro e z2 ⟨s2, rfl, hs2', y2⟩; have rz := (g4.below y1).below y2; have hon2 := hs2'.one)
      | (refine wl_store rfl _ _ _ rfl (w.heap.size + 1) (mc (wsM m (seaS m i)) s2) rfl rfl _ _ rz rfl (by kernel_rfl) hon2 ?_; intro z3 rz3 hg3))
    have BZ := below_and (below_and g5 (Nat.le_refl _) y1) (Nat.le_refl _) y2
    have BZ3 := BZ.trans (grown_below hg3 BZ.size (fun k hk => by cases hk; omega))
    have hz1 : w.heap.size + 2 ≤ z1.heap.size := Nat.le_trans g6 y1.size
    refine bodyPost_ret (v := .agg (mc (wsM m (seaS m i)) s2).toArray) (results_cell_row rfl _ _ (w.heap.size + 1) _ _ (0, 0) _ (by rfl) rz3.out Tryz.underlying32 rfl (by kernel_rfl)) rfl ?_
    exact ⟨s2, rfl, hs2'.mv hg3.size (Mv.from (L := w.heap.size) hg3 (by omega) (by omega)), BZ3⟩
  refine AllReadyH.cons (o := _) rfl (fun K hK => ?_) AllReadyH.nil
  go_simp
  have c1 := below_alloc w2.drew (.cells #[.slice av nv cv] 24)
  have b1 := below_and hdw (Nat.le_refl _) c1
  have q1 := RDL.out w2.drew hdw
  refine hK.out _ _ b1 (fun hHeld => ?_)
  clear hK K hHeld
  refine wpAnyH_ready (rs := [1]) (by kernel_rfl) (by simp) ?_
  refine AllReadyH.cons (o := _) rfl (fun K hK => ?_) AllReadyH.nil
  go_simp
  refine ((HR).out (w2.drew.alloc (.cells #[.slice av nv cv] 24)) b1).mono ?_
  rintro e u2 ⟨rfl, c2⟩
  have b2 := below_and b1 (Nat.le_refl _) c2
  have q2 := q1.below c2
  try go_simp
  refine hK.out _ _ b2 (fun hHeld => ?_)
  clear hK K hHeld
  refine wpAnyH_ready (rs := [3]) (by kernel_rfl) (by simp) ?_
  refine AllReadyH.cons (o := _) rfl (fun K hK => ?_) AllReadyH.nil
  go_simp
  refine ((HD).out u2 b2).mono ?_
  rintro e u3 ⟨rfl, c3⟩
  have b3 := below_and b2 (Nat.le_refl _) c3
  have q3 := q2.below c3
  try go_simp
  refine hK.out _ _ b3 (fun hHeld => ?_)
  clear hK K hHeld
  refine wpAnyH_ready (rs := [6]) (by kernel_rfl) (by simp) ?_
  refine AllReadyH.cons (o := _) rfl (fun K hK => ?_) AllReadyH.nil
  go_simp
  refine (sign_any _ (repL i) (domS m) _ [seaB m] q3 (domS_size m) HT.out (TT.out _ b3)).mono ?_
  rintro e u9 ⟨v9, rfl, o9, f9, c9⟩
  have b9 := below_and b3 (Nat.le_refl _) c9
  have F9 := f9.mono b3.size
  try go_simp
  refine hK.out _ _ b9 (fun hHeld => ?_)
  clear hK K hHeld
  refine wpAnyH_ready (rs := [7]) (by kernel_rfl) (by simp) ?_
  refine AllReadyH.cons (o := _) rfl (fun K hK => ?_) AllReadyH.nil
  go_simp
  refine hK.out _ _ b9 (fun hHeld => ?_)
  clear hK K hHeld
  refine wpAnyH_done (by kernel_rfl) ?_ _
  obtain ⟨g1, g2, g3, g4, g5, g6⟩ := HRES.out u9 v9 b9 o9
  go_wp2_with (first
    | (refine wl_load rfl _ _ rfl w.heap.size rfl _ _ g3 _ Tryz.underlying32 rfl (by kernel_rfl) ?_)
    | (go_at_call 24; refine (withSig_any Any u9 m s v9 (seaS m i) g2 g1).mono ?_; rintro e z1 ⟨s1, rfl, hs1, y1⟩; have hcl := cloneMsgS_any z1 (wsM m (seaS m i)) s1 (hs1.mv (Nat.le_refl _) Mv.any) (ws_szM hz (seaS_len m i)))
    | (go_at_call 23; refine hcl.mono ?_; rintro e z2 ⟨s2, rfl, hs2', y2⟩; have rz := (g4.below y1).below y2; have hon2 := hs2'.one)
    | (refine wl_store rfl _ _ _ rfl (w.heap.size + 1) (mc (wsM m (seaS m i)) s2) rfl rfl _ _ rz rfl (by kernel_rfl) hon2 ?_; intro z3 rz3 hg3))
  have BZ := below_and (below_and g5 (Nat.le_refl _) y1) (Nat.le_refl _) y2
  have BZ3 := BZ.trans (grown_below hg3 BZ.size (fun k hk => by cases hk; omega))
  have hz1 : w.heap.size + 2 ≤ z1.heap.size := Nat.le_trans g6 y1.size
  refine bodyPost_ret (v := .agg (mc (wsM m (seaS m i)) s2).toArray) (results_cell_row rfl _ _ (w.heap.size + 1) _ _ (0, 0) _ (by rfl) rz3.out Tryz.underlying32 rfl (by kernel_rfl)) rfl ?_
  exact ⟨s2, rfl, hs2'.mv hg3.size (Mv.from (L := w.heap.size) hg3 (by omega) (by omega)), BZ3⟩
theorem bM_ws {m : PMsg} (h : bM m ≤ 1048576) : bM (wsM m []) ≤ 1100000 := by
  have hR : ∀ r : PRep, bR (repSig r []) ≤ bR r := fun r => by simp only [bR, repSig, bT, List.length_nil]; omega
  have hS : ∀ l : List PRep, bS bR (l.map fun r => repSig r []) ≤ bS bR l := fun l => by
    induction l with
    | nil => simp [bS]
    | cons a l ih => have := hR a; simp only [List.map_cons, bS]; omega
  unfold wsM
  split
  · have := hS m.reps
    simp only [bM, bL] at h ⊢
    omega
  · simp only [bM, bT, List.length_nil] at h ⊢
    omega
set_option maxRecDepth 10000 in
set_option maxHeartbeats 8000000 in
theorem refSealText_any (w : World) (m : PMsg) (s : SV) (i : Int) (hs : SOk Any w m s) (hz : szM m) (hb : bM m ≤ 1048576) : Calls Tryz.prog 12 #[.agg (mc m s).toArray, .int .i64 i] w fun e w' => ∃ v, e = .returned v ∧ Own w' 5 v (bc (seaT m i)) ∧ Fr w.heap.size v ∧ Below w.heap.size w w' := by
  obtain ⟨w1, hw1, r1, B1⟩ := boxM w m s
  have hBa := refBare_any w1 m s (hs.below B1) hz
  have hen : ∀ u s', SOk Any u (wsM m []) s' → Calls Tryz.prog 33 #[.agg (mc (wsM m []) s').toArray] u fun e w' => ∃ v', e = .returned (.tuple #[v', .int .i64 (seaE m)]) ∧ Rd w' v' (seaB m) ∧ Below u.heap.size u w' := fun u s' h => refEncode_any u (wsM m []) s' h (bM_ws hb)
  unfold seaT
  by_cases h0 : seaE m = 0
  case neg =>
    rw [if_neg h0]
    obtain ⟨E, hE⟩ : ∃ E, E = seaE m := ⟨_, rfl⟩
    rw [← hE] at hen h0
    have HEn := (show Hid (∀ u s', SOk Any u (wsM m []) s' → Calls Tryz.prog 33 #[.agg (mc (wsM m []) s').toArray] u fun e w' => ∃ v', e = .returned (.tuple #[v', .int .i64 E]) ∧ Rd w' v' (seaB m) ∧ Below u.heap.size u w') from hen)
    clear hE hen
    go_enter Tryz.func12, Tryz.ntmps12
    go_upto_region 1 with fail
    rw [← hw1]
    clear hw1
    go_wp2_with (first
      | (refine wl_load rfl _ _ rfl w.heap.size rfl _ _ r1 _ Tryz.underlying32 rfl (by kernel_rfl) ?_)
      | (go_at_call 31; refine hBa.mono ?_; rintro e wb ⟨sb, C, rfl, hsb, hbb⟩)
      | (go_at_call 33; refine (HEn.out wb sb hsb.any).mono ?_; rintro e w2 ⟨sv, rfl, R2, hb2⟩))
    go_ret
    exact ⟨_, rfl, Own.nil _ _, Fr.nil _, below_and (below_and B1 (Nat.le_refl _) hbb) (Nat.le_refl _) hb2⟩
  rw [if_pos h0]
  rw [h0] at hen
  have HEn := (show Hid (∀ u s', SOk Any u (wsM m []) s' → Calls Tryz.prog 33 #[.agg (mc (wsM m []) s').toArray] u fun e w' => ∃ v', e = .returned (.tuple #[v', .int .i64 0]) ∧ Rd w' v' (seaB m) ∧ Below u.heap.size u w') from hen)
  clear h0 hen
  go_enter Tryz.func12, Tryz.ntmps12
  go_upto_region 1 with fail
  rw [← hw1]
  clear hw1
  go_upto_region 4 with (first
    | (refine wl_load rfl _ _ rfl w.heap.size rfl _ _ r1 _ Tryz.underlying32 rfl (by kernel_rfl) ?_)
    | (go_at_call 31; refine hBa.mono ?_; rintro e wb ⟨sb, C, rfl, hsb, hbb⟩)
    | (go_at_call 33; refine (HEn.out wb sb hsb.any).mono ?_; rintro e w2 ⟨sv, rfl, R2, hb2⟩))
  have hb12 := below_and hbb (Nat.le_refl _) hb2
  have B2 := below_and B1 (Nat.le_refl _) hb12
  have r2 := r1.below hb12
  have hs2 := hs.below B2
  have hdw : Below w2.heap.size w2 w2.drew := ⟨rfl, rfl, rfl, Nat.le_refl _, fun _ _ => rfl⟩
  obtain ⟨av, cv, rfl, hcv⟩ := R2.form
  obtain ⟨nv, hnv⟩ : ∃ nv, nv = (seaB m).length := ⟨_, rfl⟩
  rw [← hnv] at R2
  rw [← hnv]
  have HR := (show Hid (∀ u, Below w2.heap.size w2 u → Calls Tryz.prog 35 #[.int .i64 i] u fun e w' => e = .returned (.int .i64 (repL i)) ∧ Below u.heap.size u w') from fun u _ => (refReplica_any u i).mono fun e w' h => ⟨h.1, h.2 ▸ Below.refl _ _⟩)
  have HD := (show Hid (∀ u, Below w2.heap.size w2 u → Calls Tryz.prog 36 #[.agg (mc m s).toArray] u fun e w' => e = .returned (.string (domS m)) ∧ Below u.heap.size u w') from fun u hu => refDomain_any Any u m s (hs2.below hu))
  have RDL := (show Hid (∀ u, Below w2.heap.size w2 u → Rdl (u.alloc (.cells #[.slice av nv cv] 24)) (.slice (some ⟨u.heap.size, 0, none⟩) 1 1) [seaB m]) from fun u hu => rdlS_one u (.slice av nv cv) _ (R2.below hu))
  have HT := (show Hid (tot [seaB m] ≤ 4000000) by show _ ≤ _; have := seaB_len m; simp only [tot]; omega)
  have HG := (show Hid (∀ u, Below w2.heap.size w2 u → u.rangeAt w.heap.size 0 (mc m s)) from fun u hu j x hx => by rw [Nat.zero_add]; exact (r2.below hu).cell hx)
  clear hBa r1 r2 hs2 hs R2 hb2 hbb hb12 B1 hcv hnv hsb HEn
  try go_simp
  refine wp_region_held_drew (S := fun u => Below w2.heap.size w2 u) (by kernel_rfl) hdw (fun hHeld => ?_)
  clear hHeld
  refine wpAnyH_take (i := 0) (v := .int .i64 i) rfl (by kernel_rfl) (by kernel_rfl) (by kernel_rfl) (fun _ _ _ h => h) (Or.inl ⟨by rfl, fun u hSu => by go_simp⟩) hdw ?_
  simp only [Act.put, List.setIfInBounds_toArray, List.set_cons_zero, List.set_cons_succ]
  refine wpAnyH_take (i := 4) (v := (.slice av nv cv)) rfl (by kernel_rfl) (by kernel_rfl) (by kernel_rfl) (fun _ _ _ h => h) (Or.inl ⟨by rfl, fun u hSu => by go_simp⟩) hdw ?_
  simp only [Act.put, List.setIfInBounds_toArray, List.set_cons_zero, List.set_cons_succ]
  refine wpAnyH_take (i := 2) (v := .agg (mc m s).toArray) rfl (by kernel_rfl) (by kernel_rfl) (by kernel_rfl) (fun _ _ _ h => h) (yieldsIf_load_mid (by rfl) _ _ rfl w.heap.size 0 rfl (mc m s) _ HG.out Tryz.underlying32 rfl (by kernel_rfl)) hdw ?_
  simp only [Act.put, List.setIfInBounds_toArray, List.set_cons_zero, List.set_cons_succ]
  refine wpAnyH_ready (rs := [1, 5]) (by kernel_rfl) (by simp) ?_
  refine AllReadyH.cons (o := _) rfl (fun K hK => ?_) ?_
  · go_simp
    refine ((HR).out w2.drew hdw).mono ?_
    rintro e u1 ⟨rfl, c1⟩
    have b1 := below_and hdw (Nat.le_refl _) c1
    try go_simp
    refine hK.out _ _ b1 (fun hHeld => ?_)
    clear hK K hHeld
    refine wpAnyH_ready (rs := [3, 5]) (by kernel_rfl) (by simp) ?_
    refine AllReadyH.cons (o := _) rfl (fun K hK => ?_) ?_
    · go_simp
      refine ((HD).out u1 b1).mono ?_
      rintro e u2 ⟨rfl, c2⟩
      have b2 := below_and b1 (Nat.le_refl _) c2
      try go_simp
      refine hK.out _ _ b2 (fun hHeld => ?_)
      clear hK K hHeld
      refine wpAnyH_ready (rs := [5]) (by kernel_rfl) (by simp) ?_
      refine AllReadyH.cons (o := _) rfl (fun K hK => ?_) AllReadyH.nil
      go_simp
      have c3 := below_alloc u2 (.cells #[.slice av nv cv] 24)
      have b3 := below_and b2 (Nat.le_refl _) c3
      have q3 := RDL.out u2 b2
      refine hK.out _ _ b3 (fun hHeld => ?_)
      clear hK K hHeld
      refine wpAnyH_ready (rs := [6]) (by kernel_rfl) (by simp) ?_
      refine AllReadyH.cons (o := _) rfl (fun K hK => ?_) AllReadyH.nil
      go_simp
      refine (refTextK_any _ (repL i) (domS m) _ [seaB m] q3 (domS_size m) HT.out).mono ?_
      rintro e u9 ⟨v9, rfl, o9, f9, c9⟩
      have b9 := below_and b3 (Nat.le_refl _) c9
      have F9 := f9.mono b3.size
      try go_simp
      refine hK.out _ _ b9 (fun hHeld => ?_)
      clear hK K hHeld
      refine wpAnyH_ready (rs := [7]) (by kernel_rfl) (by simp) ?_
      refine AllReadyH.cons (o := _) rfl (fun K hK => ?_) AllReadyH.nil
      go_simp
      refine hK.out _ _ b9 (fun hHeld => ?_)
      clear hK K hHeld
      refine wpAnyH_done (by kernel_rfl) ?_ _
      go_wp2_with fail
      go_ret
      exact ⟨_, rfl, o9, F9.mono B2.size, below_and B2 (Nat.le_refl _) b9⟩
    refine AllReadyH.cons (o := _) rfl (fun K hK => ?_) AllReadyH.nil
    go_simp
    have c2 := below_alloc u1 (.cells #[.slice av nv cv] 24)
    have b2 := below_and b1 (Nat.le_refl _) c2
    have q2 := RDL.out u1 b1
    refine hK.out _ _ b2 (fun hHeld => ?_)
    clear hK K hHeld
    refine wpAnyH_ready (rs := [3]) (by kernel_rfl) (by simp) ?_
    refine AllReadyH.cons (o := _) rfl (fun K hK => ?_) AllReadyH.nil
    go_simp
    refine ((HD).out (u1.alloc (.cells #[.slice av nv cv] 24)) b2).mono ?_
    rintro e u3 ⟨rfl, c3⟩
    have b3 := below_and b2 (Nat.le_refl _) c3
    have q3 := q2.below c3
    try go_simp
    refine hK.out _ _ b3 (fun hHeld => ?_)
    clear hK K hHeld
    refine wpAnyH_ready (rs := [6]) (by kernel_rfl) (by simp) ?_
    refine AllReadyH.cons (o := _) rfl (fun K hK => ?_) AllReadyH.nil
    go_simp
    refine (refTextK_any _ (repL i) (domS m) _ [seaB m] q3 (domS_size m) HT.out).mono ?_
    rintro e u9 ⟨v9, rfl, o9, f9, c9⟩
    have b9 := below_and b3 (Nat.le_refl _) c9
    have F9 := f9.mono b3.size
    try go_simp
    refine hK.out _ _ b9 (fun hHeld => ?_)
    clear hK K hHeld
    refine wpAnyH_ready (rs := [7]) (by kernel_rfl) (by simp) ?_
    refine AllReadyH.cons (o := _) rfl (fun K hK => ?_) AllReadyH.nil
    go_simp
    refine hK.out _ _ b9 (fun hHeld => ?_)
    clear hK K hHeld
    refine wpAnyH_done (by kernel_rfl) ?_ _
    go_wp2_with fail
    go_ret
    exact ⟨_, rfl, o9, F9.mono B2.size, below_and B2 (Nat.le_refl _) b9⟩
  refine AllReadyH.cons (o := _) rfl (fun K hK => ?_) AllReadyH.nil
  go_simp
  have c1 := below_alloc w2.drew (.cells #[.slice av nv cv] 24)
  have b1 := below_and hdw (Nat.le_refl _) c1
  have q1 := RDL.out w2.drew hdw
  refine hK.out _ _ b1 (fun hHeld => ?_)
  clear hK K hHeld
  refine wpAnyH_ready (rs := [1]) (by kernel_rfl) (by simp) ?_
  refine AllReadyH.cons (o := _) rfl (fun K hK => ?_) AllReadyH.nil
  go_simp
  refine ((HR).out (w2.drew.alloc (.cells #[.slice av nv cv] 24)) b1).mono ?_
  rintro e u2 ⟨rfl, c2⟩
  have b2 := below_and b1 (Nat.le_refl _) c2
  have q2 := q1.below c2
  try go_simp
  refine hK.out _ _ b2 (fun hHeld => ?_)
  clear hK K hHeld
  refine wpAnyH_ready (rs := [3]) (by kernel_rfl) (by simp) ?_
  refine AllReadyH.cons (o := _) rfl (fun K hK => ?_) AllReadyH.nil
  go_simp
  refine ((HD).out u2 b2).mono ?_
  rintro e u3 ⟨rfl, c3⟩
  have b3 := below_and b2 (Nat.le_refl _) c3
  have q3 := q2.below c3
  try go_simp
  refine hK.out _ _ b3 (fun hHeld => ?_)
  clear hK K hHeld
  refine wpAnyH_ready (rs := [6]) (by kernel_rfl) (by simp) ?_
  refine AllReadyH.cons (o := _) rfl (fun K hK => ?_) AllReadyH.nil
  go_simp
  refine (refTextK_any _ (repL i) (domS m) _ [seaB m] q3 (domS_size m) HT.out).mono ?_
  rintro e u9 ⟨v9, rfl, o9, f9, c9⟩
  have b9 := below_and b3 (Nat.le_refl _) c9
  have F9 := f9.mono b3.size
  try go_simp
  refine hK.out _ _ b9 (fun hHeld => ?_)
  clear hK K hHeld
  refine wpAnyH_ready (rs := [7]) (by kernel_rfl) (by simp) ?_
  refine AllReadyH.cons (o := _) rfl (fun K hK => ?_) AllReadyH.nil
  go_simp
  refine hK.out _ _ b9 (fun hHeld => ?_)
  clear hK K hHeld
  refine wpAnyH_done (by kernel_rfl) ?_ _
  go_wp2_with fail
  go_ret
  exact ⟨_, rfl, o9, F9.mono B2.size, below_and B2 (Nat.le_refl _) b9⟩
end Go.Proofs.YtijmecplechhgaaGreatDoor
end
