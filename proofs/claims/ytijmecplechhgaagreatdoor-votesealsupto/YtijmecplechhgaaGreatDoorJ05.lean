/- What the types of records are, where no reader of messages is about (D2, D3, D4 say it else). -/
import Derived.Test.YtijmecplechhgaaGreatDoorJ04
import Derived.Deep.RegionHeld3
import Derived.Test.YtijmecplechhgaaGreatDoorLc
section
set_option linter.unusedVariables false
set_option linter.unusedSimpArgs false
namespace Go.Proofs.YtijmecplechhgaaGreatDoor
open Go.RowKit Oct

theorem domS_size (m : PMsg) : (domS m).size ≤ 4000000 := by unfold domS; split <;> decide
theorem seaB_len (m : PMsg) : (seaB m).length ≤ 1048576 := by
  unfold seaB encB
  split
  · rename_i h
    unfold encE at h
    split at h
    · cases h
    · split at h
      · cases h
      · omega
  · simp
theorem rdlS_one (u : World) (v : Value) (l : List Int) (h : Rd u v l) : Rdl (u.alloc (.cells #[v] 24)) (.slice (some ⟨u.heap.size, 0, none⟩) 1 1) [l] :=
  ⟨[v], rdv_els u [v] 24 (by simp) (by simp), h.below (below_alloc _ _), trivial⟩
set_option maxRecDepth 10000 in
set_option maxHeartbeats 4000000 in
theorem sealText_any (w : World) (m : PMsg) (s : SV) (i : Int) (hs : SOk Any w m s) : Calls Tryz.prog 7 #[.agg (mc m s).toArray, .int .i64 i] w fun e w' => ∃ v, e = .returned v ∧ Own w' 5 v (bc (seaT m i)) ∧ Fr w.heap.size v ∧ Below w.heap.size w w' := by
  obtain ⟨w1, hw1, r1, B1⟩ := boxM w m s
  have hC := sealBody_any w1 m s (hs.below B1)
  unfold seaT
  by_cases h0 : seaE m = 0
  case neg =>
    rw [if_neg h0]
    obtain ⟨E, hE⟩ : ∃ E, E = seaE m := ⟨_, rfl⟩
    rw [← hE] at hC h0
    clear hE
    go_enter Tryz.func7, Tryz.ntmps7
    go_upto_region 1 with fail
    rw [← hw1]
    clear hw1
    go_wp2_with (first
      | (refine wl_load rfl _ _ rfl w.heap.size rfl _ _ r1 _ Tryz.underlying32 rfl (by kernel_rfl) ?_)
      | (go_at_call 19; refine hC.mono ?_; rintro e w2 ⟨sv, rfl, o2, y2, f2, hb2⟩))
    go_ret
    exact ⟨_, rfl, Own.nil _ _, Fr.nil _, below_and B1 (Nat.le_refl _) hb2⟩
  rw [if_pos h0]
  rw [h0] at hC
  clear h0
  go_enter Tryz.func7, Tryz.ntmps7
  go_upto_region 1 with fail
  rw [← hw1]
  clear hw1
  go_wp2_with (first
    | (refine wl_load rfl _ _ rfl w.heap.size rfl _ _ r1 _ Tryz.underlying32 rfl (by kernel_rfl) ?_)
    | (go_at_call 19; refine hC.mono ?_; rintro e w2 ⟨sv, rfl, o2, y2, f2, hb2⟩))
  have B2 := below_and B1 (Nat.le_refl _) hb2
  have r2 := r1.below hb2
  have hs2 := hs.below B2
  have hdw : Below w2.heap.size w2 w2.drew := ⟨rfl, rfl, rfl, Nat.le_refl _, fun _ _ => rfl⟩
  have R2 := o2.rd y2
  obtain ⟨av, cv, rfl, hcv⟩ := R2.form
  obtain ⟨nv, hnv⟩ : ∃ nv, nv = (seaB m).length := ⟨_, rfl⟩
  rw [← hnv] at R2 o2
  rw [← hnv]
  have HR := (show Hid (∀ u, Below w2.heap.size w2 u → Calls Tryz.prog 21 #[.int .i64 i] u fun e w' => e = .returned (.int .i64 (repL i)) ∧ Below u.heap.size u w') from fun u _ => (replica_any u i).mono fun e w' h => ⟨h.1, h.2 ▸ Below.refl _ _⟩)
  have HD := (show Hid (∀ u, Below w2.heap.size w2 u → Calls Tryz.prog 22 #[.agg (mc m s).toArray] u fun e w' => e = .returned (.string (domS m)) ∧ Below u.heap.size u w') from fun u hu => sealDomain_any Any u m s (hs2.below hu))
  have RDL := (show Hid (∀ u, Below w2.heap.size w2 u → Rdl (u.alloc (.cells #[.slice av nv cv] 24)) (.slice (some ⟨u.heap.size, 0, none⟩) 1 1) [seaB m]) from fun u hu => rdlS_one u (.slice av nv cv) _ (R2.below hu))
  have HT := (show Hid (tot [seaB m] ≤ 4000000) by show _ ≤ _; have := seaB_len m; simp only [tot]; omega)
  have HG := (show Hid (∀ u, Below w2.heap.size w2 u → u.rangeAt w.heap.size 0 (mc m s)) from fun u hu j x hx => by rw [Nat.zero_add]; exact (r2.below hu).cell hx)
  clear hC r1 r2 hs2 hs R2 o2 y2 f2 hb2 B1 hcv hnv
  refine wp_region_held_drew (S := fun u => Below w2.heap.size w2 u) (by kernel_rfl) hdw (fun hHeld => ?_)
  clear hHeld
  refine wpAnyH_take (i := 0) (v := .int .i64 i) rfl (by kernel_rfl) (by kernel_rfl) (by kernel_rfl) (fun _ _ _ h => h) (Or.inl ⟨by rfl, fun u hSu => by go_simp⟩) hdw ?_
  simp only [Act.put, List.setIfInBounds_toArray, List.set_cons_zero, List.set_cons_succ]
  refine wpAnyH_take (i := 4) (v := (.slice av nv cv)) rfl (by kernel_rfl) (by kernel_rfl) (by kernel_rfl) (fun _ _ _ h => h) (Or.inl ⟨by rfl, fun u hSu => by go_simp⟩) hdw ?_
  simp only [Act.put, List.setIfInBounds_toArray, List.set_cons_zero, List.set_cons_succ]
  refine wpAnyH_take (i := 2) (v := .agg (mc m s).toArray) rfl (by kernel_rfl) (by kernel_rfl) (by kernel_rfl) (fun _ _ _ h => h) (yieldsIf_load_mid (by rfl) _ _ rfl w.heap.size 0 rfl (mc m s) _ HG.out Tryz.underlying32 rfl (by kernel_rfl)) hdw ?_
  simp only [Act.put, List.setIfInBounds_toArray, List.set_cons_zero, List.set_cons_succ]
  refine wpAnyH_ready (rs := [1, 5]) (by kernel_rfl) (by simp) ?_
  refine AllReadyH.cons (o := _) rfl (fun K hK => ?_) ?_
  · go_simp
    refine ((HR).out w2.drew hdw).mono ?_
    rintro e u1 ⟨rfl, c1⟩
    have b1 := below_and hdw (Nat.le_refl _) c1
    try go_simp
    refine hK.out _ _ b1 (fun hHeld => ?_)
    clear hK K hHeld
    refine wpAnyH_ready (rs := [3, 5]) (by kernel_rfl) (by simp) ?_
    refine AllReadyH.cons (o := _) rfl (fun K hK => ?_) ?_
    · go_simp
      refine ((HD).out u1 b1).mono ?_
      rintro e u2 ⟨rfl, c2⟩
      have b2 := below_and b1 (Nat.le_refl _) c2
      try go_simp
      refine hK.out _ _ b2 (fun hHeld => ?_)
      clear hK K hHeld
      refine wpAnyH_ready (rs := [5]) (by kernel_rfl) (by simp) ?_
      refine AllReadyH.cons (o := _) rfl (fun K hK => ?_) AllReadyH.nil
      go_simp
      have c3 := below_alloc u2 (.cells #[.slice av nv cv] 24)
      have b3 := below_and b2 (Nat.le_refl _) c3
      have q3 := RDL.out u2 b2
      refine hK.out _ _ b3 (fun hHeld => ?_)
      clear hK K hHeld
      refine wpAnyH_ready (rs := [6]) (by kernel_rfl) (by simp) ?_
      refine AllReadyH.cons (o := _) rfl (fun K hK => ?_) AllReadyH.nil
      go_simp
      refine (text_any _ (repL i) (domS m) _ [seaB m] q3 (domS_size m) HT.out).mono ?_
      rintro e u9 ⟨v9, rfl, o9, f9, c9⟩
      have b9 := below_and b3 (Nat.le_refl _) c9
      have F9 := f9.mono b3.size
      try go_simp
      refine hK.out _ _ b9 (fun hHeld => ?_)
      clear hK K hHeld
      refine wpAnyH_ready (rs := [7]) (by kernel_rfl) (by simp) ?_
      refine AllReadyH.cons (o := _) rfl (fun K hK => ?_) AllReadyH.nil
      go_simp
      refine hK.out _ _ b9 (fun hHeld => ?_)
      clear hK K hHeld
      refine wpAnyH_done (by kernel_rfl) ?_ _
      go_wp2_with fail
      go_ret
      exact ⟨_, rfl, o9, F9.mono B2.size, below_and B2 (Nat.le_refl _) b9⟩
    refine AllReadyH.cons (o := _) rfl (fun K hK => ?_) AllReadyH.nil
    go_simp
    have c2 := below_alloc u1 (.cells #[.slice av nv cv] 24)
    have b2 := below_and b1 (Nat.le_refl _) c2
    have q2 := RDL.out u1 b1
    refine hK.out _ _ b2 (fun hHeld => ?_)
    clear hK K hHeld
    refine wpAnyH_ready (rs := [3]) (by kernel_rfl) (by simp) ?_
    refine AllReadyH.cons (o := _) rfl (fun K hK => ?_) AllReadyH.nil
    go_simp
    refine ((HD).out (u1.alloc (.cells #[.slice av nv cv] 24)) b2).mono ?_
    rintro e u3 ⟨rfl, c3⟩
    have b3 := below_and b2 (Nat.le_refl _) c3
    have q3 := q2.below c3
    try go_simp
    refine hK.out _ _ b3 (fun hHeld => ?_)
    clear hK K hHeld
    refine wpAnyH_ready (rs := [6]) (by kernel_rfl) (by simp) ?_
    refine AllReadyH.cons (o := _) rfl (fun K hK => ?_) AllReadyH.nil
    go_simp
    refine (text_any _ (repL i) (domS m) _ [seaB m] q3 (domS_size m) HT.out).mono ?_
    rintro e u9 ⟨v9, rfl, o9, f9, c9⟩
    have b9 := below_and b3 (Nat.le_refl _) c9
    have F9 := f9.mono b3.size
    try go_simp
    refine hK.out _ _ b9 (fun hHeld => ?_)
    clear hK K hHeld
    refine wpAnyH_ready (rs := [7]) (by kernel_rfl) (by simp) ?_
    refine AllReadyH.cons (o := _) rfl (fun K hK => ?_) AllReadyH.nil
    go_simp
    refine hK.out _ _ b9 (fun hHeld => ?_)
    clear hK K hHeld
    refine wpAnyH_done (by kernel_rfl) ?_ _
    go_wp2_with fail
    go_ret
    exact ⟨_, rfl, o9, F9.mono B2.size, below_and B2 (Nat.le_refl _) b9⟩
  refine AllReadyH.cons (o := _) rfl (fun K hK => ?_) AllReadyH.nil
  go_simp
  have c1 := below_alloc w2.drew (.cells #[.slice av nv cv] 24)
  have b1 := below_and hdw (Nat.le_refl _) c1
  have q1 := RDL.out w2.drew hdw
  refine hK.out _ _ b1 (fun hHeld => ?_)
  clear hK K hHeld
  refine wpAnyH_ready (rs := [1]) (by kernel_rfl) (by simp) ?_
  refine AllReadyH.cons (o := _) rfl (fun K hK => ?_) AllReadyH.nil
  go_simp
  refine ((HR).out (w2.drew.alloc (.cells #[.slice av nv cv] 24)) b1).mono ?_
  rintro e u2 ⟨rfl, c2⟩
  have b2 := below_and b1 (Nat.le_refl _) c2
  have q2 := q1.below c2
  try go_simp
  refine hK.out _ _ b2 (fun hHeld => ?_)
  clear hK K hHeld
  refine wpAnyH_ready (rs := [3]) (by kernel_rfl) (by simp) ?_
  refine AllReadyH.cons (o := _) rfl (fun K hK => ?_) AllReadyH.nil
  go_simp
  refine ((HD).out u2 b2).mono ?_
  rintro e u3 ⟨rfl, c3⟩
  have b3 := below_and b2 (Nat.le_refl _) c3
  have q3 := q2.below c3
  try go_simp
  refine hK.out _ _ b3 (fun hHeld => ?_)
  clear hK K hHeld
  refine wpAnyH_ready (rs := [6]) (by kernel_rfl) (by simp) ?_
  refine AllReadyH.cons (o := _) rfl (fun K hK => ?_) AllReadyH.nil
  go_simp
  refine (text_any _ (repL i) (domS m) _ [seaB m] q3 (domS_size m) HT.out).mono ?_
  rintro e u9 ⟨v9, rfl, o9, f9, c9⟩
  have b9 := below_and b3 (Nat.le_refl _) c9
  have F9 := f9.mono b3.size
  try go_simp
  refine hK.out _ _ b9 (fun hHeld => ?_)
  clear hK K hHeld
  refine wpAnyH_ready (rs := [7]) (by kernel_rfl) (by simp) ?_
  refine AllReadyH.cons (o := _) rfl (fun K hK => ?_) AllReadyH.nil
  go_simp
  refine hK.out _ _ b9 (fun hHeld => ?_)
  clear hK K hHeld
  refine wpAnyH_done (by kernel_rfl) ?_ _
  go_wp2_with fail
  go_ret
  exact ⟨_, rfl, o9, F9.mono B2.size, below_and B2 (Nat.le_refl _) b9⟩
end Go.Proofs.YtijmecplechhgaaGreatDoor
end

section
set_option linter.unusedVariables false
namespace Go.Proofs.YtijmecplechhgaaGreatDoor
open Go.RowKit Oct

theorem Tryz.infV : (Tryz.prog.info? 41).map (fun i => (i.zero, i.size, i.bytes)) = some (some (.agg #[.int .i64 0, .slice none 0 0]), 2, 32) := by kernel_rfl
theorem one_RV {G : Nat → Prop} {w : World} {r : List Value} {x : PVote} (h : RVote G w r x) : ∀ v ∈ r, v.oneCell' = true := by
  obtain ⟨s, rfl, hs⟩ := h
  have := hs.one
  intro v hv
  simp only [List.mem_cons, List.not_mem_nil, or_false] at hv
  rcases hv with rfl | rfl <;> first | rfl | assumption
theorem keepC {w u : World} {p : Addr} {v : Value} (hb : Below w.heap.size w u) (h : w.cell? p = some v) : u.cell? p = some v := (hb.cell (World.block_lt_of_cell? w p h)).trans h
theorem one2 {a : Int} {u : Value} (hu : u.oneCell' = true) : ∀ x ∈ [Value.int .i64 a, u], x.oneCell' = true := by
  intro x hx
  simp only [List.mem_cons, List.not_mem_nil, or_false] at hx
  rcases hx with rfl | rfl <;> first | rfl | assumption
theorem own_slice {w : World} {e : TypeId} {v : Value} {xs : List Value} (h : Own w e v xs) : ∃ ao n cap, v = .slice ao n cap := by
  obtain ⟨ao, cap, e, _⟩ := h.form; exact ⟨ao, _, cap, e⟩
theorem grown_cell {w w' : World} {row : Option Nat} {a : Addr} {v : Value} (hg : w.grownBy w' row) (h : w.cell? a = some v) (hn : row ≠ some a.block) : w'.cell? a = some v := by
  rw [World.cell?_of_block (w := w) (w' := w') (a := a) (hg.block a.block (World.block_lt_of_cell? w a h) (fun e => hn e.symm))]
  exact h
theorem take_len {α : Type} {ys : List α} {q : Nat} (h : q ≤ ys.length) : (ys.take q).length = q := by rw [List.length_take]; omega

set_option maxRecDepth 10000 in
set_option maxHeartbeats 2000000 in
theorem copyVotes_some (w : World) (bb off cap : Nat) (ys : List PVote) (hl : 0 < ys.length) (hc : ys.length ≤ cap) (hm : cap ≤ maxLen) (hbb : bb < w.heap.size)
    (hx : ∀ (i : Nat) (a : PVote), ys[i]? = some a → ∃ r, r.length = 2 ∧ w.rangeAt bb (off + i * 2) r ∧ RVote Any w r a) (hz : szL 32 szV ys) :
    Calls Tryz.prog 17 #[.slice (some ⟨bb, off, none⟩) ys.length cap] w fun e w' => ∃ v', e = .returned v' ∧ RL RVote 2 (From w.heap.size) w' v' ys ∧ Below w.heap.size w w' := by
  obtain ⟨hz1, hz2⟩ := hz
  have HX := (show Hid (∀ (i : Nat) (a : PVote), ys[i]? = some a → ∃ r, r.length = 2 ∧ w.rangeAt bb (off + i * 2) r ∧ RVote Any w r a) from hx)
  have HZ := (show Hid (∀ y ∈ ys, szV y) from hz2)
  have hlm : (ys.length : Int) ≤ 9223372036854775807 := by unfold maxLen at hm; omega
  clear hx hz2
  go_enter Tryz.func17, Tryz.ntmps17
  go_wp2_with fail
  go_loopw [3, 9] (fun v i wr => ∃ q : Nat, q ≤ ys.length ∧ i = .int .i64 q ∧ LB RVote 41 2 w.heap.size wr v (ys.take q) ∧ Below w.heap.size w wr) (fun _ i _ => ys.length - (intOf i).toNat)
  case atStart => exact ⟨0, by omega, rfl, LB.fresh _ _ _ _ _ (Nat.le_refl _), below_alloc w _⟩
  case round =>
    obtain ⟨q, hq, rfl, hLB, hB⟩ := hrel
    by_cases hql : q < ys.length
    · obtain ⟨a, ha⟩ : ∃ a, ys[q]? = some a := ⟨_, List.getElem?_eq_getElem hql⟩
      obtain ⟨r, _, hrng, s, rfl, hs⟩ := HX.out q a ha
      have hza := HZ.out a (List.mem_of_getElem? ha)
      have hrng := rangeAt_block hrng (hB.block bb hbb)
      have HA := (show Hid (ys.take (q + 1) = ys.take q ++ [a]) from take_snoc' ys q a ha)
      have hso := hs.one
      have hrow0 := Row.new wr 41 [.int .i64 0, .slice none 0 0]
      clear ha
      go_wp2_with (first
        | (refine wpList_load_mid rfl _ _ rfl bb (off + q * 2) rfl [.int .i64 a.1, s] _ hrng Tryz.underlying41 rfl (by kernel_rfl) ?_)
        | (refine wl_store rfl _ _ _ rfl wr.heap.size [.int .i64 a.1, s] rfl rfl _ _ hrow0 rfl (by kernel_rfl) (one2 hso) ?_; intro w5 hr5 hg5))
      have hb5 : Below wr.heap.size wr w5 := (below_alloc wr (.cells ([.int .i64 0, .slice none 0 0] : List Value).toArray 41)).trans (grown_below hg5 (by simp) (fun k hk => by cases hk; exact Nat.le_refl _))
      have hr5 := hr5.out
      have hB5 := below_and hB (Nat.le_refl _) hb5
      have hs5 := (hs.mv (Mv.below hB5)).1
      have p0 := hr5.cell (j := 0) rfl
      have p1 := hr5.cell (j := 1) rfl
      have SK := (show Hid (∀ u, Below w5.heap.size w5 u → u.cell? ⟨wr.heap.size, 0, none⟩ = some (.int .i64 a.1) ∧ u.cell? ⟨wr.heap.size, 1, none⟩ = some s) from fun u hu => ⟨keepC hu p0, keepC hu p1⟩)
      have hLB5 := hLB.below mov_vote hb5
      have hlt5 : ∀ g, u3.ownBlock = some g → g < w5.heap.size := hLB5.lt
      have hws : w.heap.size ≤ w5.heap.size := hB5.size
      have hne0 := World.new_ne w5 ⟨wr.heap.size, 0, none⟩ p0
      have hne1 := World.new_ne w5 ⟨wr.heap.size, 1, none⟩ p1
      have htl := take_len hq
      have hnv : u3.ownBlock ≠ some wr.heap.size := fun e => absurd (hLB.lt _ e) (Nat.lt_irrefl _)
      clear hrng hrow0 hg5
      go_region_held3 (fun u => u.cell? ⟨wr.heap.size, 0, none⟩ = some (.int .i64 a.1) ∧ u.cell? ⟨wr.heap.size, 1, none⟩ = some s)
        (first | exact SK.out _ (by assumption) | exact hS8 | go_keep)
        (first
          | (refine step_bytes (by rfl) _ _ (by rfl) (.slice (some ⟨w5.heap.size, 0, none⟩) 0 0) [] (by rfl) (own_zero w5 5).drew s a.2 (by rfl) (hs5.below (below_alloc w5 _)).2.drew (by simp only [List.length_nil]; have := hza; unfold szV szT at this; omega) ?_; intro v6 w6 happ6; obtain ⟨ao6, n6, c6, rfl⟩ := own_slice happ6.own; have hb6 : Below w5.heap.size w5 w6 := ((below_alloc w5 _).drew).trans (happ6.below (fr_at _ _ _ _ (Nat.le_refl _)) (by simp)); have hRc : RVote (From w5.heap.size) w6 [.int .i64 a.1, .slice ao6 n6 c6] a := ⟨_, rfl, RT.own (by simpa using happ6.own) hs5.1 (happ6.fr (fr_at _ _ _ _ (Nat.le_refl _)) (by simp))⟩; have hLB6 := hLB5.below mov_vote hb6)
          | (refine step_push mov_vote (by rfl) _ _ _ (by rfl) 41 2 32 _ Tryz.underlying27 Tryz.infV rfl (by decide) w.heap.size u3 (ys.take q) (by rfl) hLB6 [.int .i64 a.1, .slice ao6 n6 c6] a w5.heap.size hRc rfl (one_RV hRc) hws hlt5 (by rfl) (Nat.le_trans hws hb6.size) (by rw [htl]; omega) (by decide) ?_; intro v8 w8 hLB8 hg8; have hS8 : w8.cell? ⟨wr.heap.size, 0, none⟩ = some (.int .i64 a.1) ∧ w8.cell? ⟨wr.heap.size, 1, none⟩ = some s := ⟨grown_cell hg8 (keepC hb6 p0) hnv, grown_cell hg8 (keepC hb6 p1) hnv⟩))
      rw [← HA.out] at hLB8
      have hb56 := below_and hb5 (Nat.le_refl _) hb6
      have hB8 := (below_and hB (Nat.le_refl _) hb56).trans (grown_below hg8 (below_and hB (Nat.le_refl _) hb56).size (fun k hk => hLB.fr k hk))
      go_wp2_with fail
      go_roundw
      case rel => exact ⟨q + 1, by omega, by go_num, hLB8, hB8⟩
      case measure => simp [intOf]; omega
    · obtain rfl : q = ys.length := by omega
      rw [List.take_length] at hLB
      have hrl := hLB.rl mov_vote
      go_wp2_with fail
      go_ret
      exact ⟨_, rfl, hrl, hB⟩
theorem copyVotes_none (w : World) (ao : Option Addr) (cap : Nat) :
    Calls Tryz.prog 17 #[.slice ao 0 cap] w fun e w' => ∃ v', e = .returned v' ∧ RL RVote 2 (From w.heap.size) w' v' [] ∧ Below w.heap.size w w' := by
  go_enter Tryz.func17, Tryz.ntmps17
  go_wp2_with fail
  refine wp_loop_rounds 1 ?_; rw [rounds_succ]
  go_wp2_with fail
  go_ret
  exact ⟨_, rfl, (LB.fresh RVote 41 2 w.heap.size w (Nat.le_refl _)).rl mov_vote, below_alloc w _⟩
/-- CopyVotes. -/
theorem copyVotes_any (w : World) (v : Value) (ys : List PVote) (h : RL RVote 2 Any w v ys) (hz : szL 32 szV ys) :
    Calls Tryz.prog 17 #[v] w fun e w' => ∃ v', e = .returned v' ∧ RL RVote 2 (From w.heap.size) w' v' ys ∧ Below w.heap.size w w' := by
  by_cases hl : 0 < ys.length
  · obtain ⟨b1, o1, c1, rfl, hc1, hm1, _, hb1, hx1⟩ := h.at hl
    exact copyVotes_some w b1 o1 c1 ys hl hc1 hm1 hb1 hx1 hz
  · obtain rfl : ys = [] := List.eq_nil_of_length_eq_zero (by omega)
    obtain ⟨ao, c1, rfl, _⟩ := h.form
    exact copyVotes_none w ao c1
end Go.Proofs.YtijmecplechhgaaGreatDoor
end

section
namespace Go.Proofs.YtijmecplechhgaaGreatDoor
open Go.RowKit Oct

theorem Tryz.inf_votes : (Tryz.prog.info? 41).map (fun i => (i.zero, i.size, i.bytes)) = some (some (.agg #[.int .i64 0, .slice none 0 0]), 2, 32) := by kernel_rfl
theorem Tryz.inf_ints : (Tryz.prog.info? 3).map (fun i => (i.zero, i.size, i.bytes)) = some (some (.int .i64 0), 1, 8) := by kernel_rfl
theorem Tryz.inf_reqs : (Tryz.prog.info? 26).map (fun i => (i.zero, i.size, i.bytes)) = some (some (.agg #[.int .i64 0, .int .i64 0, .slice none 0 0, .slice none 0 0]), 4, 64) := by kernel_rfl
theorem Tryz.inf_preps : (Tryz.prog.info? 69).map (fun i => (i.zero, i.size, i.bytes)) = some (some (.agg #[.int .i64 0, .int .i64 0, .int .i64 0, .int .i64 0, .int .i64 0, .slice none 0 0, .slice none 0 0, .slice none 0 0]), 8, 112) := by kernel_rfl
theorem Tryz.inf_reps : (Tryz.prog.info? 48).map (fun i => (i.zero, i.size, i.bytes)) = some (some (.agg #[.int .i64 0, .int .i64 0, .int .i64 0, .int .i64 0, .slice none 0 0, .slice none 0 0, .slice none 0 0, .slice none 0 0]), 8, 128) := by kernel_rfl
theorem len_RVote {G : Nat → Prop} {w : World} {r : List Value} {x : PVote} (h : RVote G w r x) : r.length = 2 := by obtain ⟨s, rfl, _⟩ := h; rfl
theorem len_RReq {G : Nat → Prop} {w : World} {r : List Value} {x : PReq} (h : RReq G w r x) : r.length = 4 := by obtain ⟨o, g, rfl, _⟩ := h; rfl
theorem len_RPrep {G : Nat → Prop} {w : World} {r : List Value} {x : PPrep} (h : RPrep G w r x) : r.length = 8 := by obtain ⟨o, g, c, rfl, _⟩ := h; rfl
theorem len_RRep {G : Nat → Prop} {w : World} {r : List Value} {x : PRep} (h : RRep G w r x) : r.length = 8 := by obtain ⟨d, s, p, g, rfl, _⟩ := h; rfl
end Go.Proofs.YtijmecplechhgaaGreatDoor
end
