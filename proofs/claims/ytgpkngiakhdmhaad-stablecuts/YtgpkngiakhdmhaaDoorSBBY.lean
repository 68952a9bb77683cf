/- catenarylaw19.StableCuts: its walk. -/
import Derived.Test.YtgpkngiakhdmhaaDoorSBBW
import Derived.Test.YtgpkngiakhdmhaaDoorSBBX
import Derived.Deep.CutRange
import Derived.Deep.Cut
set_option linter.unusedSimpArgs false
set_option linter.unusedVariables false
namespace Go.Proofs.YtgpkngiakhdmhaaDoor
open Go.RowKit Oct Stb MI Bal Sha
set_option maxRecDepth 10000 in
set_option maxHeartbeats 16000000 in
theorem stCuts_any (W : World) (n : Int) (vv : Value) (ys : List PActT) (c : Int) (hvs : RL RActT 5 Any W vv ys) (hz : ∀ a ∈ ys, szAT a) (hT : Tab W) :
    Calls Tryd.prog 6 #[.int .i64 n, vv, .int .i64 c] W fun e w' => e = .returned (.bool true) ∧ Below W.heap.size W w' := by
  obtain ⟨aa, ca, rfl, _⟩ := hvs.form
  have hlv : (ys.length : Int) ≤ 9223372036854775807 := by
    by_cases h0 : 0 < ys.length
    · obtain ⟨_, _, _, _, h1, h2, _⟩ := hvs.at h0
      unfold maxLen at h2
      omega
    · omega
  go_enter Tryd.func6, Tryd.ntmps6
  go_upto_region 4 with (first
    | (go_at_call 8; refine (newT_any w1 n).mono ?_; rintro e w2 ⟨rfl, h2, b2⟩)
    | (go_at_call 7; refine (stableAlive_any W hT).mono ?_; rintro e w1 ⟨rfl, b1⟩))
  have BW2 := below_and b1 (Nat.le_refl _) b2
  have P2 : Mid W (w1.heap.size + 1) w1.heap.size n 0 w2 [] := ⟨h2, (hT.below b1).below b2, BW2, fun k hk => (by rcases hk with hk | hk; rw [hk]; exact b1.size; cases hk), Nat.le_succ_of_le b1.size⟩
  clear b1 b2 h2 hT
  generalize hm : w1.heap.size = m at *
  generalize hbb : m + 1 = b at *
  clear hm hbb
  by_cases hl100 : ys.length ≤ 100
  case neg =>
    have hgt : decide ((100 : Int) < (ys.length : Int)) = true := by simp; omega
    go_wp2_with fail
    go_ret
    exact ⟨rfl, BW2⟩
  have hgt : decide ((100 : Int) < (ys.length : Int)) = false := by simp; omega
  go_upto_region 7 with fail
  clear hgt
  have hbs0 := bs0
  go_loopw [31] (fun j wr => ∃ (q : Nat) (tl : PTl), q ≤ ys.length ∧ j = .int .i64 q ∧ Mid W b m n 0 wr tl) (fun j _ => ys.length - (intOf j).toNat)
  case atStart => exact ⟨0, [], by omega, rfl, P2⟩
  case round =>
    clear P2
    obtain ⟨q, tl, hq, rfl, hM⟩ := hrel
    by_cases hql : q < ys.length
    case pos =>
      obtain ⟨⟨cb, s, d, i, g⟩, hA⟩ : ∃ A, ys[q]? = some A := ⟨_, List.getElem?_eq_getElem hql⟩
      have hzA := hz _ (List.mem_of_getElem? hA)
      obtain ⟨bv, off, cap, hve, _, _, _, hbv, hat⟩ := hvs.at (by omega)
      obtain ⟨rvv, _, hrng, dv, gv, rfl, t1, t2⟩ := hat q _ hA
      injection hve with hv1 hv2 hv3
      subst hv1 hv3
      simp only at t1 t2 hrng
      obtain ⟨da, dc, rfl, _⟩ := t1.form
      obtain ⟨ga, gc, rfl, _⟩ := t2.form
      clear hv2 hat hA
      have hB := hM.2.2.1
      have hrng := rangeAt_block hrng (hB.block bv hbv)
      have hrow0 := Row.new wr 30 [.bool false, .int .i64 0, .slice none 0 0, .int .i64 0, .slice none 0 0]
      go_upto_region 9 with (first
        | (refine wpList_load_mid rfl _ _ rfl bv (off + q * 5) rfl [.bool cb, .int .i64 s, .slice da d.length dc, .int .i64 i, .slice ga g.length gc] _ hrng Tryd.underlying30 rfl (by kernel_rfl) ?_)
        | (refine wl_store rfl _ _ _ rfl wr.heap.size [.bool cb, .int .i64 s, .slice da d.length dc, .int .i64 i, .slice ga g.length gc] rfl rfl _ _ hrow0 rfl (by kernel_rfl) (fun u hu => by simp only [List.mem_cons, List.not_mem_nil, or_false] at hu; rcases hu with rfl | rfl | rfl | rfl | rfl <;> rfl) ?_; intro w5 r5 g5))
      have r5 := r5.out
      have b5 : Below wr.heap.size wr w5 := (below_alloc wr (.cells ([.bool false, .int .i64 0, .slice none 0 0, .int .i64 0, .slice none 0 0] : List Value).toArray 30)).trans (grown_below g5 (by simp) (fun k hk => by cases hk; exact Nat.le_refl _))
      have hM5 := hM.below b5
      have hB5 := hM5.2.2.1
      have t1 := t1.mv (Mv.below hB5)
      have t2 := t2.mv (Mv.below hB5)
      generalize wr.heap.size = c7 at *
      clear hrow0 g5 hrng hB b5 hM
      have B0 : Below w5.heap.size w5 w5.drew := ⟨rfl, rfl, rfl, Nat.le_refl _, fun _ _ => rfl⟩
      have HRW := (show Hid (∀ u, Below w5.heap.size w5 u → Row u c7 30 [.bool cb, .int .i64 s, .slice da d.length dc, .int .i64 i, .slice ga g.length gc]) from fun u hu => r5.below hu)
      have HD := (show Hid (∀ u, Below w5.heap.size w5 u → Rd u (.slice da d.length dc) d ∧ RT Any u (.slice ga g.length gc) g) from fun u hu => ⟨(t1.mv (Mv.below hu)).1, t2.mv (Mv.below hu)⟩)
      have HDL := (show Hid (([] : List Int).length + d.length ≤ 140737488355328) from hid_dig hzA.1)
      have HDB := (show Hid (Byt d) from t1.1.1)
      have HSG := (show Hid (szT g) from hzA.2)
      have HADD := (show Hid (∀ u dv gv, Below w5.heap.size w5 u → Rd u dv d → Rd u gv g → Calls Tryd.prog 9 #[.pointer (some ⟨b, 0, none⟩), .int .i64 s, dv, .agg #[.int .i64 i, gv]] u fun e w' => ∃ nb, e = .returned (.bool (addB n 0 tl s d (i, g))) ∧ Hid (Mid W b m n 0 w' (addT n 0 tl nb s d (i, g)) ∧ Gs (Own1 m tl) u w' ∧ (∀ k, Own1 m tl k → ¬ NMap u k))) from fun u dv gv hu h1 h2 => (hM5.below hu).add s dv d h1 i gv g h2)
      clear t1 t2 r5 hM5 hzA hB5
      have hbs1 := fun u => bs1 u i ga g.length gc
      try go_simp
      refine wp_region_held_drew (S := fun u => Row u c7 30 [.bool cb, .int .i64 s, .slice da d.length dc, .int .i64 i, .slice ga g.length gc]) (by kernel_rfl) (HRW.out _ B0) (fun hHeld => ?_)
      clear hHeld
      refine wpAnyH_take (i := 0) (v := .pointer (some ⟨b, 0, none⟩)) rfl (by kernel_rfl) (by kernel_rfl) (by kernel_rfl) (fun _ _ _ h => h) (Or.inl ⟨by kernel_rfl, fun u hSu => by go_simp⟩) (HRW.out w5.drew B0) ?_
      simp only [Act.put, List.setIfInBounds_toArray, List.set_cons_zero, List.set_cons_succ]
      refine wpAnyH_take (i := 1) (v := .pointer (some ⟨c7, 1, none⟩)) rfl (by kernel_rfl) (by kernel_rfl) (by kernel_rfl) (fun _ _ _ h => h) (Or.inl ⟨by kernel_rfl, fun u hSu => by go_simp⟩) (HRW.out w5.drew B0) ?_
      simp only [Act.put, List.setIfInBounds_toArray, List.set_cons_zero, List.set_cons_succ]
      refine wpAnyH_take (i := 2) (v := .int .i64 s) rfl (by kernel_rfl) (by kernel_rfl) (by kernel_rfl) (fun _ _ _ h => h) (Or.inl ⟨by kernel_rfl, fun u hSu => by have hck := (hSu).cell (j := 1) rfl; go_simp⟩) (HRW.out w5.drew B0) ?_
      simp only [Act.put, List.setIfInBounds_toArray, List.set_cons_zero, List.set_cons_succ]
      refine wpAnyH_take (i := 4) (v := .pointer (some ⟨c7, 2, none⟩)) rfl (by kernel_rfl) (by kernel_rfl) (by kernel_rfl) (fun _ _ _ h => h) (Or.inl ⟨by kernel_rfl, fun u hSu => by go_simp⟩) (HRW.out w5.drew B0) ?_
      simp only [Act.put, List.setIfInBounds_toArray, List.set_cons_zero, List.set_cons_succ]
      refine wpAnyH_take (i := 5) (v := .slice da d.length dc) rfl (by kernel_rfl) (by kernel_rfl) (by kernel_rfl) (fun _ _ _ h => h) (Or.inl ⟨by kernel_rfl, fun u hSu => by have hck := (hSu).cell (j := 2) rfl; go_simp⟩) (HRW.out w5.drew B0) ?_
      simp only [Act.put, List.setIfInBounds_toArray, List.set_cons_zero, List.set_cons_succ]
      refine wpAnyH_take (i := 7) (v := .pointer (some ⟨c7, 3, none⟩)) rfl (by kernel_rfl) (by kernel_rfl) (by kernel_rfl) (fun _ _ _ h => h) (Or.inl ⟨by kernel_rfl, fun u hSu => by go_simp⟩) (HRW.out w5.drew B0) ?_
      simp only [Act.put, List.setIfInBounds_toArray, List.set_cons_zero, List.set_cons_succ]
      refine wpAnyH_take (i := 8) (v := .agg #[.int .i64 i, .slice ga g.length gc]) rfl (by kernel_rfl) (by kernel_rfl) (by kernel_rfl) (fun _ _ _ h => h) (yieldsIf_load_mid (by kernel_rfl) _ _ rfl c7 3 (by go_simp) [.int .i64 i, .slice ga g.length gc] _ (fun u hSu => Row.midT hSu 3 rfl) Tryd.underlying28 rfl (by kernel_rfl)) (HRW.out w5.drew B0) ?_
      simp only [Act.put, List.setIfInBounds_toArray, List.set_cons_zero, List.set_cons_succ]
      simp only [List.getElem_toArray, List.getElem_cons_succ, List.getElem_cons_zero, Act.put, List.setIfInBounds_toArray, List.set_cons_zero, List.set_cons_succ]
      obtain ⟨u3, hu3⟩ : ∃ x, x = World.alloc w5.drew (.cells #[] 5) := ⟨_, rfl⟩
      have o3 : Own u3 5 (.slice (some ⟨w5.heap.size, 0, none⟩) 0 0) (bc []) := by rw [hu3]; exact own_zero w5.drew _
      have B3 : Below w5.heap.size w5 u3 := by rw [hu3]; exact below_and B0 (Nat.le_refl _) (below_alloc _ _)
      obtain ⟨v9w, hv9⟩ : ∃ x, x = World.alloc w5.drew (.cells #[.int .i64 i, .slice ga g.length gc] 28) := ⟨_, rfl⟩
      have C9 : Below w5.heap.size w5 v9w := by rw [hv9]; exact below_and B0 (Nat.le_refl _) (below_alloc _ _)
      have hc9 := hbs1 w5.drew
      rw [← hv9] at hc9
      refine wpAnyH_ready (rs := [3, 9]) (by kernel_rfl) (by simp) ?_
      refine AllReadyH.cons (o := _) rfl (fun K hK => ?_) (AllReadyH.cons (o := _) rfl (fun K hK => ?_) AllReadyH.nil)
      · clear hc9 C9 hv9
        go_simp
        first | rw [← hu3] | rw [show (World.alloc w5 (.cells #[] 5)).drew = u3 from by rw [hu3]; rfl]
        refine hK.out _ _ (HRW.out u3 B3) (fun hHeld => ?_)
        clear hK K hHeld hu3
        obtain ⟨u9, hu9⟩ : ∃ x, x = World.alloc u3 (.cells #[.int .i64 i, .slice ga g.length gc] 28) := ⟨_, rfl⟩
        have B9 : Below w5.heap.size w5 u9 := by rw [hu9]; exact below_and B3 (Nat.le_refl _) (below_alloc _ _)
        have hb9 := hbs1 u3
        rw [← hu9] at hb9
        refine wpAnyH_ready (rs := [6, 9]) (by kernel_rfl) (by simp) ?_
        refine AllReadyH.cons (o := _) rfl (fun K hK => ?_) (AllReadyH.cons (o := _) rfl (fun K hK => ?_) AllReadyH.nil)
        · clear hb9 B9 hu9
          refine step_bytesW (by kernel_rfl) _ _ (by rfl) (.slice (some ⟨w5.heap.size, 0, none⟩) 0 0) [] (by rfl) o3 (.slice da d.length dc) d (by rfl) (HD.out u3 B3).1.2 HDL.out ?_
          intro v6 u6 happ6
          have B6 : Below w5.heap.size w5 u6 := (B3).trans (happ6.below (fr_at _ _ _ _ (Nat.le_refl _)) (B3).size)
          have R6 : Rd u6 v6 d := Own.rd (l := d) (by simpa using happ6.own) HDB.out
          have g6 := happ6.grown
          obtain ⟨a6, n6, c6, rfl⟩ := own_slice happ6.own
          refine hK.out _ _ (HRW.out u6 B6) (fun hHeld => ?_)
          clear hK K hHeld happ6
          simp only [List.getElem_toArray, List.getElem_cons_succ, List.getElem_cons_zero, Act.put, List.setIfInBounds_toArray, List.set_cons_zero, List.set_cons_succ]
          obtain ⟨u9b, hu9⟩ : ∃ x, x = World.alloc u6 (.cells #[.int .i64 i, .slice ga g.length gc] 28) := ⟨_, rfl⟩
          have B9 : Below w5.heap.size w5 u9b := by rw [hu9]; exact below_and B6 (Nat.le_refl _) (below_alloc _ _)
          have hb9 := hbs1 u6
          rw [← hu9] at hb9
          refine wpAnyH_ready (rs := [9]) (by kernel_rfl) (by simp) ?_
          refine AllReadyH.cons (o := _) rfl (fun K hK => ?_) AllReadyH.nil
          have R9 : RL RVote 2 Any u9b (.slice (some ⟨u6.heap.size, 0, none⟩) 1 1) [(i, g)] := by rw [hu9]; exact rl_oneT (HD.out u6 B6).2 trivial
          have R6 : Rd u9b (.slice a6 n6 c6) d := by rw [hu9]; exact R6.below (below_alloc _ _)
          go_simp
          first | rw [← hu9] | rw [show (World.alloc w5 (.cells #[.int .i64 i, .slice ga g.length gc] 28)).drew = u9b from by rw [hu9]; rfl] | skip
          refine hK.out _ _ (HRW.out u9b B9) (fun hHeld => ?_)
          clear hK K hHeld hb9
          clear hu9
          refine wpAnyH_ready (rs := [10]) (by kernel_rfl) (by simp) ?_
          refine AllReadyH.cons (o := _) rfl (fun K hK => ?_) AllReadyH.nil
          go_simp
          refine (copy1_any u9b _ i g R9 HSG.out).mono ?_
          rintro e u10 ⟨x, y, z, ga2, gc2, rfl, hr10, ht10, b10, hx10⟩
          have B10 := below_and B9 (Nat.le_refl _) b10.out
          have R6 := R6.below b10.out
          try go_simp
          refine hK.out _ _ (HRW.out u10 B10) (fun hHeld => ?_)
          clear hK K hHeld
          refine wpAnyH_take (i := 11) (v := .pointer (some ⟨x, y, none⟩)) rfl (by kernel_rfl) (by kernel_rfl) (by kernel_rfl) (fun _ _ _ h => h) (Or.inl ⟨by kernel_rfl, fun u hSu => by go_simp⟩) (HRW.out u10 B10) ?_
          simp only [Act.put, List.setIfInBounds_toArray, List.set_cons_zero, List.set_cons_succ]
          simp only [List.getElem_toArray, List.getElem_cons_succ, List.getElem_cons_zero, Act.put, List.setIfInBounds_toArray, List.set_cons_zero, List.set_cons_succ]
          refine wpAnyH_ready (rs := [12]) (by kernel_rfl) (by simp) ?_
          refine AllReadyH.cons (o := _) rfl (fun K hK => ?_) AllReadyH.nil
          refine step_loadM (by kernel_rfl) _ _ (by rfl) x y (by rfl) [.int .i64 i, .slice ga2 g.length gc2] _ hr10.out Tryd.underlying28 rfl (by kernel_rfl) ?_
          refine hK.out _ _ (HRW.out u10 B10) (fun hHeld => ?_)
          clear hK K hHeld
          simp only [List.getElem_toArray, List.getElem_cons_succ, List.getElem_cons_zero, Act.put, List.setIfInBounds_toArray, List.set_cons_zero, List.set_cons_succ]
          refine wpAnyH_ready (rs := [13]) (by kernel_rfl) (by simp) ?_
          refine AllReadyH.cons (o := _) rfl (fun K hK => ?_) AllReadyH.nil
          go_simp
          refine (HADD.out u10 _ _ B10 R6 ht10.out.1).mono ?_
          rintro e u13 ⟨nb, rfl, h13⟩
          have S13 := row_gs (HRW.out u10 B10) h13.out.2.1 h13.out.2.2
          try go_simp
          refine hK.out _ _ S13 (fun hHeld => ?_)
          clear hK K hHeld
          refine wpAnyH_done (by kernel_rfl) ?_ _
          go_wp2_with fail
          go_roundw
          case rel => exact ⟨q + 1, _, by omega, by go_num, h13.out.1⟩
          case measure => simp [intOf]; omega
        · have R9 : RL RVote 2 (fun k => k ≠ w5.heap.size) u9 (.slice (some ⟨u3.heap.size, 0, none⟩) 1 1) [(i, g)] := by rw [hu9]; exact rl_oneT (((HD.out w5 (Below.refl _ _)).2.mv (G' := fun k => k ≠ w5.heap.size) (fun k _ hlt => ⟨rfl, by omega⟩)).mv (Mv.belowG B3)) (by have := (own_lt0 o3); omega)
          have o9 : Own u9 5 (.slice (some ⟨w5.heap.size, 0, none⟩) 0 0) (bc []) := by rw [hu9]; exact o3.below (below_alloc _ _)
          go_simp
          first | rw [← hu9] | rw [show (World.alloc w5 (.cells #[.int .i64 i, .slice ga g.length gc] 28)).drew = u9 from by rw [hu9]; rfl] | skip
          refine hK.out _ _ (HRW.out u9 B9) (fun hHeld => ?_)
          clear hK K hHeld hb9
          clear hu9
          refine wpAnyH_ready (rs := [6]) (by kernel_rfl) (by simp) ?_
          refine AllReadyH.cons (o := _) rfl (fun K hK => ?_) AllReadyH.nil
          refine step_bytesW (by kernel_rfl) _ _ (by rfl) (.slice (some ⟨w5.heap.size, 0, none⟩) 0 0) [] (by rfl) o9 (.slice da d.length dc) d (by rfl) (HD.out u9 B9).1.2 HDL.out ?_
          intro v6 u6 happ6
          have B6 : Below w5.heap.size w5 u6 := (B9).trans (happ6.below (fr_at _ _ _ _ (Nat.le_refl _)) (B9).size)
          have R6 : Rd u6 v6 d := Own.rd (l := d) (by simpa using happ6.own) HDB.out
          have g6 := happ6.grown
          obtain ⟨a6, n6, c6, rfl⟩ := own_slice happ6.own
          refine hK.out _ _ (HRW.out u6 B6) (fun hHeld => ?_)
          clear hK K hHeld happ6
          simp only [List.getElem_toArray, List.getElem_cons_succ, List.getElem_cons_zero, Act.put, List.setIfInBounds_toArray, List.set_cons_zero, List.set_cons_succ]
          have R9 := R9.mv (G' := Any) mov_vote g6.size (fun k hk hlt => ⟨g6.block k hlt (fun e => hk (Option.some.inj e)), trivial⟩)
          refine wpAnyH_ready (rs := [10]) (by kernel_rfl) (by simp) ?_
          refine AllReadyH.cons (o := _) rfl (fun K hK => ?_) AllReadyH.nil
          go_simp
          refine (copy1_any u6 _ i g R9 HSG.out).mono ?_
          rintro e u10 ⟨x, y, z, ga2, gc2, rfl, hr10, ht10, b10, hx10⟩
          have B10 := below_and B6 (Nat.le_refl _) b10.out
          have R6 := R6.below b10.out
          try go_simp
          refine hK.out _ _ (HRW.out u10 B10) (fun hHeld => ?_)
          clear hK K hHeld
          refine wpAnyH_take (i := 11) (v := .pointer (some ⟨x, y, none⟩)) rfl (by kernel_rfl) (by kernel_rfl) (by kernel_rfl) (fun _ _ _ h => h) (Or.inl ⟨by kernel_rfl, fun u hSu => by go_simp⟩) (HRW.out u10 B10) ?_
          simp only [Act.put, List.setIfInBounds_toArray, List.set_cons_zero, List.set_cons_succ]
          simp only [List.getElem_toArray, List.getElem_cons_succ, List.getElem_cons_zero, Act.put, List.setIfInBounds_toArray, List.set_cons_zero, List.set_cons_succ]
          refine wpAnyH_ready (rs := [12]) (by kernel_rfl) (by simp) ?_
          refine AllReadyH.cons (o := _) rfl (fun K hK => ?_) AllReadyH.nil
          refine step_loadM (by kernel_rfl) _ _ (by rfl) x y (by rfl) [.int .i64 i, .slice ga2 g.length gc2] _ hr10.out Tryd.underlying28 rfl (by kernel_rfl) ?_
          refine hK.out _ _ (HRW.out u10 B10) (fun hHeld => ?_)
          clear hK K hHeld
          simp only [List.getElem_toArray, List.getElem_cons_succ, List.getElem_cons_zero, Act.put, List.setIfInBounds_toArray, List.set_cons_zero, List.set_cons_succ]
          refine wpAnyH_ready (rs := [13]) (by kernel_rfl) (by simp) ?_
          refine AllReadyH.cons (o := _) rfl (fun K hK => ?_) AllReadyH.nil
          go_simp
          refine (HADD.out u10 _ _ B10 R6 ht10.out.1).mono ?_
          rintro e u13 ⟨nb, rfl, h13⟩
          have S13 := row_gs (HRW.out u10 B10) h13.out.2.1 h13.out.2.2
          try go_simp
          refine hK.out _ _ S13 (fun hHeld => ?_)
          clear hK K hHeld
          refine wpAnyH_done (by kernel_rfl) ?_ _
          go_wp2_with fail
          go_roundw
          case rel => exact ⟨q + 1, _, by omega, by go_num, h13.out.1⟩
          case measure => simp [intOf]; omega
      · clear hu3 o3 B3
        have R9 : RL RVote 2 Any v9w (.slice (some ⟨w5.heap.size, 0, none⟩) 1 1) [(i, g)] := by rw [hv9]; exact rl_oneT (w := w5.drew) (HD.out w5.drew B0).2 trivial
        have hv9s : w5.heap.size < v9w.heap.size := by rw [hv9]; simp
        go_simp
        first | rw [← hv9] | rw [show (World.alloc w5 (.cells #[.int .i64 i, .slice ga g.length gc] 28)).drew = v9w from by rw [hv9]; rfl] | skip
        refine hK.out _ _ (HRW.out v9w C9) (fun hHeld => ?_)
        clear hK K hHeld hc9
        clear hv9
        obtain ⟨u3b, hu3⟩ : ∃ x, x = World.alloc v9w (.cells #[] 5) := ⟨_, rfl⟩
        have o3 : Own u3b 5 (.slice (some ⟨v9w.heap.size, 0, none⟩) 0 0) (bc []) := by rw [hu3]; exact own_zero v9w _
        have B3 : Below w5.heap.size w5 u3b := by rw [hu3]; exact below_and C9 (Nat.le_refl _) (below_alloc _ _)
        refine wpAnyH_ready (rs := [3]) (by kernel_rfl) (by simp) ?_
        refine AllReadyH.cons (o := _) rfl (fun K hK => ?_) AllReadyH.nil
        have R9 : RL RVote 2 (fun k => k ≠ v9w.heap.size) u3b (.slice (some ⟨w5.heap.size, 0, none⟩) 1 1) [(i, g)] := by rw [hu3]; exact (R9.mv (G' := fun k => k ≠ v9w.heap.size) mov_vote (Nat.le_refl _) (fun k _ hlt => ⟨rfl, by omega⟩)).mv mov_vote (below_alloc _ _).size (Mv.belowG (below_alloc _ _))
        go_simp
        first | rw [← hu3] | rw [show (World.alloc w5 (.cells #[] 5)).drew = u3b from by rw [hu3]; rfl]
        refine hK.out _ _ (HRW.out u3b B3) (fun hHeld => ?_)
        clear hK K hHeld hu3
        refine wpAnyH_ready (rs := [6]) (by kernel_rfl) (by simp) ?_
        refine AllReadyH.cons (o := _) rfl (fun K hK => ?_) AllReadyH.nil
        refine step_bytesW (by kernel_rfl) _ _ (by rfl) (.slice (some ⟨v9w.heap.size, 0, none⟩) 0 0) [] (by rfl) o3 (.slice da d.length dc) d (by rfl) (HD.out u3b B3).1.2 HDL.out ?_
        intro v6 u6 happ6
        have B6 : Below w5.heap.size w5 u6 := (B3).trans (happ6.below (fr_at _ _ _ _ (by omega)) (B3).size)
        have R6 : Rd u6 v6 d := Own.rd (l := d) (by simpa using happ6.own) HDB.out
        have g6 := happ6.grown
        obtain ⟨a6, n6, c6, rfl⟩ := own_slice happ6.own
        refine hK.out _ _ (HRW.out u6 B6) (fun hHeld => ?_)
        clear hK K hHeld happ6
        simp only [List.getElem_toArray, List.getElem_cons_succ, List.getElem_cons_zero, Act.put, List.setIfInBounds_toArray, List.set_cons_zero, List.set_cons_succ]
        have R9 := R9.mv (G' := Any) mov_vote g6.size (fun k hk hlt => ⟨g6.block k hlt (fun e => hk (Option.some.inj e)), trivial⟩)
        refine wpAnyH_ready (rs := [10]) (by kernel_rfl) (by simp) ?_
        refine AllReadyH.cons (o := _) rfl (fun K hK => ?_) AllReadyH.nil
        go_simp
        refine (copy1_any u6 _ i g R9 HSG.out).mono ?_
        rintro e u10 ⟨x, y, z, ga2, gc2, rfl, hr10, ht10, b10, hx10⟩
        have B10 := below_and B6 (Nat.le_refl _) b10.out
        have R6 := R6.below b10.out
        try go_simp
        refine hK.out _ _ (HRW.out u10 B10) (fun hHeld => ?_)
        clear hK K hHeld
        refine wpAnyH_take (i := 11) (v := .pointer (some ⟨x, y, none⟩)) rfl (by kernel_rfl) (by kernel_rfl) (by kernel_rfl) (fun _ _ _ h => h) (Or.inl ⟨by kernel_rfl, fun u hSu => by go_simp⟩) (HRW.out u10 B10) ?_
        simp only [Act.put, List.setIfInBounds_toArray, List.set_cons_zero, List.set_cons_succ]
        simp only [List.getElem_toArray, List.getElem_cons_succ, List.getElem_cons_zero, Act.put, List.setIfInBounds_toArray, List.set_cons_zero, List.set_cons_succ]
        refine wpAnyH_ready (rs := [12]) (by kernel_rfl) (by simp) ?_
        refine AllReadyH.cons (o := _) rfl (fun K hK => ?_) AllReadyH.nil
        refine step_loadM (by kernel_rfl) _ _ (by rfl) x y (by rfl) [.int .i64 i, .slice ga2 g.length gc2] _ hr10.out Tryd.underlying28 rfl (by kernel_rfl) ?_
        refine hK.out _ _ (HRW.out u10 B10) (fun hHeld => ?_)
        clear hK K hHeld
        simp only [List.getElem_toArray, List.getElem_cons_succ, List.getElem_cons_zero, Act.put, List.setIfInBounds_toArray, List.set_cons_zero, List.set_cons_succ]
        refine wpAnyH_ready (rs := [13]) (by kernel_rfl) (by simp) ?_
        refine AllReadyH.cons (o := _) rfl (fun K hK => ?_) AllReadyH.nil
        go_simp
        refine (HADD.out u10 _ _ B10 R6 ht10.out.1).mono ?_
        rintro e u13 ⟨nb, rfl, h13⟩
        have S13 := row_gs (HRW.out u10 B10) h13.out.2.1 h13.out.2.2
        try go_simp
        refine hK.out _ _ S13 (fun hHeld => ?_)
        clear hK K hHeld
        refine wpAnyH_done (by kernel_rfl) ?_ _
        go_wp2_with fail
        go_roundw
        case rel => exact ⟨q + 1, _, by omega, by go_num, h13.out.1⟩
        case measure => simp [intOf]; omega
    case neg =>
      have hS := slotsT_any wr hM.1
      obtain ⟨L, hL⟩ : ∃ L, L = slotsL n tl := ⟨_, rfl⟩
      rw [← hL] at hS
      have HCUT := (show Hid (slotsL n (cutT tl (mx 0 c)) = L.filter (fun s => decide (c < s))) from by rw [hL]; exact slots_cut hM.1.ok)
      have HL64 := (show Hid (L.length ≤ 64) from by
        show L.length ≤ 64
        have h1 := hM.1.ok.len
        have h2 := (srtI_perm ((tl.filter (okS n)).map (·.1))).length_eq
        have h3 := List.length_filter_le (okS n) tl
        rw [hL]
        unfold slotsL
        rw [List.length_map] at h2
        omega)
      clear hL
      have HM := (show Hid (Mid W b m n 0 wr tl) from hM)
      have hbm : b < wr.heap.size ∧ m < wr.heap.size := ⟨hM.1.row.lt, hM.1.map.lt⟩
      clear hM
      go_upto_region 14 with (first
        | (go_at_call 14; refine hS.mono ?_; rintro e w8 ⟨sv, rfl, hsv, b8⟩; obtain ⟨sa, sc, rfl, _⟩ := hsv.form))
      clear hS
      have hLL := rlz_len hsv
      have HLB := LB.fresh RInt 3 1 w8.heap.size w8 (Nat.le_refl _)
      have hB9 := below_alloc w8 (.cells #[] 3)
      have HM8 := (show Hid (Mid W b m n 0 w8 tl) from HM.out.below b8)
      have hbm8 : b < w8.heap.size ∧ m < w8.heap.size := ⟨Nat.lt_of_lt_of_le hbm.1 b8.size, Nat.lt_of_lt_of_le hbm.2 b8.size⟩
      clear HM hbm b8
      have hlt9 : w8.heap.size < (w8.alloc (.cells #[] 3)).heap.size := by simp
      generalize hw9 : w8.alloc (.cells #[] 3) = w9 at *
      clear hw9
      go_loopw [11, 55] (fun o j wr => ∃ q : Nat, q ≤ L.length ∧ j = .int .i64 q ∧ LB RInt 3 1 w8.heap.size wr o ((L.take q).filter (fun s => decide (c < s))) ∧ Below w8.heap.size w8 wr ∧ w8.heap.size < wr.heap.size) (fun _ j _ => L.length - (intOf j).toNat)
      case atStart => exact ⟨0, Nat.zero_le _, rfl, HLB, hB9, hlt9⟩
      case round =>
        clear HLB hB9 hlt9
        obtain ⟨q, hq, rfl, hLB, hB, hlt⟩ := hrel
        by_cases hql : q < L.length
        case pos =>
          obtain ⟨sb, soff, scap, hve, _, _, hsb, hat⟩ := rlz_at hsv (by omega)
          injection hve with hv1 hv2 hv3
          subst hv1 hv3
          have hcell := hat q hql
          obtain ⟨x, hx⟩ : ∃ x, x = L.getD q 0 := ⟨_, rfl⟩
          rw [← hx] at hcell
          have hcp : wr.cell? ⟨sb, soff + q, none⟩ = some (.int .i64 x) := (hB.cell (p := ⟨sb, soff + q, none⟩) hsb).trans hcell
          have HT := (show Hid (L.take (q + 1) = L.take q ++ [x]) from take_snocZ (getZ_some hql hx))
          have HBD := (show Hid (((L.take q).filter (fun s => decide (c < s))).length ≤ L.length) from Nat.le_trans (List.length_filter_le _ _) (by rw [List.length_take]; omega))
          have hLlt := hLB.lt
          have i0 : (0 : Int) ≤ (q : Int) := by omega
          have i1 : (q : Int) < (L.length : Int) := by omega
          have hne2 : ∀ j, u11.ownBlock = some j → w8.heap.size ≤ j := hLB.fr
          have hBN : w8.heap.size ≤ wr.heap.size := by omega
          clear hv2 hcell hat hx
          by_cases hcx : c < x
          · have hd : decide (c < x) = true := decide_eq_true hcx
            have HF := (show Hid ((L.take (q + 1)).filter (fun s => decide (c < s)) = (L.take q).filter (fun s => decide (c < s)) ++ [x]) from by
              rw [HT.out, List.filter_append, List.filter_cons_of_pos (by simpa using hcx)]
              rfl)
            clear HT hcx
            go_upto_region 17 with fail
            apply wp_region_lit
            iterate 9 go_step
            have hbnd : (((L.take q).filter (fun s => decide (c < s))).length + 1) * 8 ≤ 140737488355328 := by
              have h1 := HBD.out
              have h2 := HL64.out
              omega
            refine wl_push mov_int rfl _ _ _ rfl 3 1 8 _ Tryd.underlying40 Tryd.infIntT rfl (by decide) w8.heap.size u11 _ rfl hLB [.int .i64 x] x wr.heap.size rfl rfl (fun u hu => by simp at hu; subst hu; rfl) hBN hLlt rfl hBN hbnd (by decide) ?_
            intro v7 w7 hL7 g7
            rw [← HF.out] at hL7
            go_wp2_with fail
            go_roundw
            case rel => exact ⟨q + 1, by omega, by go_num, hL7, hB.trans (grown_below g7 hBN (fun k hk => hne2 k hk)), Nat.lt_of_lt_of_le hlt g7.size⟩
            case measure => simp [intOf]; omega
          · have hd : decide (c < x) = false := decide_eq_false hcx
            have HF := (show Hid ((L.take (q + 1)).filter (fun s => decide (c < s)) = (L.take q).filter (fun s => decide (c < s))) from by
              rw [HT.out, List.filter_append, List.filter_cons_of_neg (by simpa using hcx), List.filter_nil, List.append_nil]
              rfl)
            clear HT hcx
            go_wp2_with fail
            go_roundw
            case rel => exact ⟨q + 1, by omega, by go_num, by rw [HF.out]; exact hLB, hB, hlt⟩
            case measure => simp [intOf]; omega
        case neg =>
          have hqe : L.take q = L := List.take_of_length_le (by omega)
          rw [hqe] at hLB
          clear hqe
          have hM := HM8.out.below hB
          have hRo := hLB.rl mov_int
          obtain ⟨xa, xc, hxe, _⟩ := hRo.form
          subst hxe
          have hC := hM.cut c
          obtain ⟨A, hA⟩ : ∃ A, A = L.filter (fun s => decide (c < s)) := ⟨_, rfl⟩
          obtain ⟨tc, htc⟩ : ∃ t, t = cutT tl (mx 0 c) := ⟨_, rfl⟩
          obtain ⟨cc, hcc⟩ : ∃ t, t = mx 0 c := ⟨_, rfl⟩
          have hmx := mx_ge 0 c
          have HSL := (show Hid (slotsL n tc = A) from by rw [htc, hA]; exact HCUT.out)
          rw [← hA] at hRo
          simp only [← hA]
          simp only [← htc] at hC
          simp only [← hcc] at hC
          rw [← hcc] at hmx
          have HMX := (show Hid (c ≤ cc) from by show c ≤ cc; omega)
          clear hA htc hcc hmx HCUT HL64 hLB HM8 hsv
          go_upto_region 20 with (first
            | (go_at_call 19; refine hC.mono ?_; rintro e w10 ⟨rfl, hM10, hg10⟩))
          have hRo10 : RL RInt 1 Any w10 (.slice xa A.length xc) A := hRo.mv (G' := Any) mov_int hg10.size (fun k hk hlt2 => ⟨hg10.block k hlt2 (fun e => by
            have hk2 : w8.heap.size ≤ k := hk
            rcases e with e | e <;> omega), trivial⟩)
          have hS10 := slotsT_any w10 hM10.out.1
          rw [HSL.out] at hS10
          have HM10 := hM10
          clear hRo hC hM hg10 hM10 hB hlt hbm8
          go_upto_region 23 with (first
            | (go_at_call 20; refine hSM.mono ?_; rintro e w12 ⟨rfl, b12⟩)
            | (go_at_call 14; refine hS10.mono ?_; rintro e w11 ⟨sv2, rfl, hsv2, b11⟩; obtain ⟨ta, tb, rfl, _⟩ := hsv2.form; have hSM := sameZ_any w11 _ _ _ _ hsv2 (hRo10.mv mov_int b11.size (Mv.below b11)); rw [decide_eq_true rfl] at hSM))
          have P12 : Mid W b m n cc w12 tc := (HM10.out.below b11).below b12
          clear hS10 hSM b11 b12 HM10 hRo10 hsv2
          go_loopw [77] (fun j wr => ∃ q : Nat, q ≤ ys.length ∧ j = .int .i64 q ∧ Mid W b m n cc wr tc) (fun j _ => ys.length - (intOf j).toNat)
          case atStart => exact ⟨0, by omega, rfl, P12⟩
          case round =>
            clear P12
            obtain ⟨q, hq, rfl, hM⟩ := hrel
            by_cases hql : q < ys.length
            case neg =>
              go_wp2_with fail
              go_ret
              exact ⟨rfl, hM.2.2.1⟩
            obtain ⟨⟨cb, s, d, i, g⟩, hA⟩ : ∃ A, ys[q]? = some A := ⟨_, List.getElem?_eq_getElem hql⟩
            have hzA := hz _ (List.mem_of_getElem? hA)
            obtain ⟨bv, off, cap, hve, _, _, _, hbv, hat⟩ := hvs.at (by omega)
            obtain ⟨rvv, _, hrng, dv, gv, rfl, t1, t2⟩ := hat q _ hA
            injection hve with hv1 hv2 hv3
            subst hv1 hv3
            simp only at t1 t2 hrng
            obtain ⟨da, dc, rfl, _⟩ := t1.form
            obtain ⟨ga, gc, rfl, _⟩ := t2.form
            clear hv2 hat hA
            have hB := hM.2.2.1
            have hrng := rangeAt_block hrng (hB.block bv hbv)
            have hrow0 := Row.new wr 30 [.bool false, .int .i64 0, .slice none 0 0, .int .i64 0, .slice none 0 0]
            go_upto_region 25 with (first
              | (refine wpList_load_mid rfl _ _ rfl bv (off + q * 5) rfl [.bool cb, .int .i64 s, .slice da d.length dc, .int .i64 i, .slice ga g.length gc] _ hrng Tryd.underlying30 rfl (by kernel_rfl) ?_)
              | (refine wl_store rfl _ _ _ rfl wr.heap.size [.bool cb, .int .i64 s, .slice da d.length dc, .int .i64 i, .slice ga g.length gc] rfl rfl _ _ hrow0 rfl (by kernel_rfl) (fun u hu => by simp only [List.mem_cons, List.not_mem_nil, or_false] at hu; rcases hu with rfl | rfl | rfl | rfl | rfl <;> rfl) ?_; intro w5 r5 g5))
            have r5 := r5.out
            have b5 : Below wr.heap.size wr w5 := (below_alloc wr (.cells ([.bool false, .int .i64 0, .slice none 0 0, .int .i64 0, .slice none 0 0] : List Value).toArray 30)).trans (grown_below g5 (by simp) (fun k hk => by cases hk; exact Nat.le_refl _))
            have hM5 := hM.below b5
            have hB5 := hM5.2.2.1
            have t1 := t1.mv (Mv.below hB5)
            have t2 := t2.mv (Mv.below hB5)
            generalize wr.heap.size = c7 at *
            clear hrow0 g5 hrng hB b5 hM
            have B0 : Below w5.heap.size w5 w5.drew := ⟨rfl, rfl, rfl, Nat.le_refl _, fun _ _ => rfl⟩
            have HRW := (show Hid (∀ u, Below w5.heap.size w5 u → Row u c7 30 [.bool cb, .int .i64 s, .slice da d.length dc, .int .i64 i, .slice ga g.length gc]) from fun u hu => r5.below hu)
            have HD := (show Hid (∀ u, Below w5.heap.size w5 u → Rd u (.slice da d.length dc) d ∧ RT Any u (.slice ga g.length gc) g) from fun u hu => ⟨(t1.mv (Mv.below hu)).1, t2.mv (Mv.below hu)⟩)
            have HDL := (show Hid (([] : List Int).length + d.length ≤ 140737488355328) from hid_dig hzA.1)
            have HDB := (show Hid (Byt d) from t1.1.1)
            have HSG := (show Hid (szT g) from hzA.2)
            have HADDn := (show Hid (¬ cc < s → ∀ u dv gv, Below w5.heap.size w5 u → Rd u dv d → Rd u gv g → Calls Tryd.prog 9 #[.pointer (some ⟨b, 0, none⟩), .int .i64 s, dv, .agg #[.int .i64 i, gv]] u fun e w' => ∃ nb : Nat, e = .returned (.bool false) ∧ Hid (Mid W b m n cc w' tc ∧ Gs (Own1 m tc) u w' ∧ (∀ k, Own1 m tc k → ¬ NMap u k))) from fun hn u dv gv hu h1 h2 => ((hM5.below hu).add s dv d h1 i gv g h2).mono (fun e w' ⟨nb, q1, q2⟩ => by
              obtain ⟨x1, x2⟩ := add_no (n := n) (tl := tc) (d := d) (v := (i, g)) (nb := nb) hn
              rw [x1] at q1
              rw [x2] at q2
              exact ⟨nb, q1, q2⟩))
            have HM5 := (show Hid (∀ u, Below w5.heap.size w5 u → Mid W b m n cc u tc) from fun u hu => hM5.below hu)
            clear t1 t2 r5 hM5 hzA hB5
            have hbs1 := fun u => bs1 u i ga g.length gc
            try go_simp
            by_cases hsc : s ≤ c
            case neg =>
              have hd : decide (s ≤ c) = false := decide_eq_false hsc
              clear HADDn HD HDL HDB HSG hbs1
              refine wp_region_held_drew (S := fun u => Row u c7 30 [.bool cb, .int .i64 s, .slice da d.length dc, .int .i64 i, .slice ga g.length gc]) (by kernel_rfl) (HRW.out _ B0) (fun hHeld => ?_)
              clear hHeld
              refine wpAnyH_take (i := 0) (v := .pointer (some ⟨c7, 1, none⟩)) rfl (by kernel_rfl) (by kernel_rfl) (by kernel_rfl) (fun _ _ _ h => h) (Or.inl ⟨by kernel_rfl, fun u hSu => by go_simp⟩) (HRW.out w5.drew B0) ?_
              simp only [Act.put, List.setIfInBounds_toArray, List.set_cons_zero, List.set_cons_succ]
              simp only [List.getElem_toArray, List.getElem_cons_succ, List.getElem_cons_zero, Act.put, List.setIfInBounds_toArray, List.set_cons_zero, List.set_cons_succ]
              refine wpAnyH_take (i := 1) (v := .int .i64 s) rfl (by kernel_rfl) (by kernel_rfl) (by kernel_rfl) (fun _ _ _ h => h) (Or.inl ⟨by kernel_rfl, fun u hSu => by have hck := (hSu).cell (j := 1) rfl; go_simp⟩) (HRW.out w5.drew B0) ?_
              simp only [Act.put, List.setIfInBounds_toArray, List.set_cons_zero, List.set_cons_succ]
              simp only [List.getElem_toArray, List.getElem_cons_succ, List.getElem_cons_zero, Act.put, List.setIfInBounds_toArray, List.set_cons_zero, List.set_cons_succ]
              refine wpAnyH_take (i := 2) (v := .int .i64 c) rfl (by kernel_rfl) (by kernel_rfl) (by kernel_rfl) (fun _ _ _ h => h) (Or.inl ⟨by kernel_rfl, fun u hSu => by go_simp⟩) (HRW.out w5.drew B0) ?_
              simp only [Act.put, List.setIfInBounds_toArray, List.set_cons_zero, List.set_cons_succ]
              simp only [List.getElem_toArray, List.getElem_cons_succ, List.getElem_cons_zero, Act.put, List.setIfInBounds_toArray, List.set_cons_zero, List.set_cons_succ]
              refine wpAnyH_take (i := 3) (v := .bool false) rfl (by kernel_rfl) (by kernel_rfl) (by kernel_rfl) (fun _ _ _ h => h) (Or.inl ⟨by kernel_rfl, fun u hSu => by go_simp⟩) (HRW.out w5.drew B0) ?_
              simp only [Act.put, List.setIfInBounds_toArray, List.set_cons_zero, List.set_cons_succ]
              simp only [List.getElem_toArray, List.getElem_cons_succ, List.getElem_cons_zero, Act.put, List.setIfInBounds_toArray, List.set_cons_zero, List.set_cons_succ]
              refine wpAnyH_take (i := 4) (v := .bool false) rfl (by kernel_rfl) (by kernel_rfl) (by kernel_rfl) (fun _ _ _ h => h) (Or.inl ⟨by kernel_rfl, fun u hSu => by go_simp⟩) (HRW.out w5.drew B0) ?_
              simp only [Act.put, List.setIfInBounds_toArray, List.set_cons_zero, List.set_cons_succ]
              simp only [List.getElem_toArray, List.getElem_cons_succ, List.getElem_cons_zero, Act.put, List.setIfInBounds_toArray, List.set_cons_zero, List.set_cons_succ]
              refine wpAnyH_take (i := 5) (v := undef) rfl (by kernel_rfl) (by kernel_rfl) (by kernel_rfl) (fun _ _ _ h => h) (Or.inr ⟨by kernel_rfl, rfl⟩) (HRW.out w5.drew B0) ?_
              simp only [Act.put, List.setIfInBounds_toArray, List.set_cons_zero, List.set_cons_succ]
              simp only [List.getElem_toArray, List.getElem_cons_succ, List.getElem_cons_zero, Act.put, List.setIfInBounds_toArray, List.set_cons_zero, List.set_cons_succ]
              refine wpAnyH_take (i := 6) (v := undef) rfl (by kernel_rfl) (by kernel_rfl) (by kernel_rfl) (fun _ _ _ h => h) (Or.inr ⟨by kernel_rfl, rfl⟩) (HRW.out w5.drew B0) ?_
              simp only [Act.put, List.setIfInBounds_toArray, List.set_cons_zero, List.set_cons_succ]
              simp only [List.getElem_toArray, List.getElem_cons_succ, List.getElem_cons_zero, Act.put, List.setIfInBounds_toArray, List.set_cons_zero, List.set_cons_succ]
              refine wpAnyH_take (i := 7) (v := undef) rfl (by kernel_rfl) (by kernel_rfl) (by kernel_rfl) (fun _ _ _ h => h) (Or.inr ⟨by kernel_rfl, rfl⟩) (HRW.out w5.drew B0) ?_
              simp only [Act.put, List.setIfInBounds_toArray, List.set_cons_zero, List.set_cons_succ]
              simp only [List.getElem_toArray, List.getElem_cons_succ, List.getElem_cons_zero, Act.put, List.setIfInBounds_toArray, List.set_cons_zero, List.set_cons_succ]
              refine wpAnyH_take (i := 8) (v := undef) rfl (by kernel_rfl) (by kernel_rfl) (by kernel_rfl) (fun _ _ _ h => h) (Or.inr ⟨by kernel_rfl, rfl⟩) (HRW.out w5.drew B0) ?_
              simp only [Act.put, List.setIfInBounds_toArray, List.set_cons_zero, List.set_cons_succ]
              simp only [List.getElem_toArray, List.getElem_cons_succ, List.getElem_cons_zero, Act.put, List.setIfInBounds_toArray, List.set_cons_zero, List.set_cons_succ]
              refine wpAnyH_take (i := 9) (v := undef) rfl (by kernel_rfl) (by kernel_rfl) (by kernel_rfl) (fun _ _ _ h => h) (Or.inr ⟨by kernel_rfl, rfl⟩) (HRW.out w5.drew B0) ?_
              simp only [Act.put, List.setIfInBounds_toArray, List.set_cons_zero, List.set_cons_succ]
              simp only [List.getElem_toArray, List.getElem_cons_succ, List.getElem_cons_zero, Act.put, List.setIfInBounds_toArray, List.set_cons_zero, List.set_cons_succ]
              refine wpAnyH_take (i := 10) (v := undef) rfl (by kernel_rfl) (by kernel_rfl) (by kernel_rfl) (fun _ _ _ h => h) (Or.inr ⟨by kernel_rfl, rfl⟩) (HRW.out w5.drew B0) ?_
              simp only [Act.put, List.setIfInBounds_toArray, List.set_cons_zero, List.set_cons_succ]
              simp only [List.getElem_toArray, List.getElem_cons_succ, List.getElem_cons_zero, Act.put, List.setIfInBounds_toArray, List.set_cons_zero, List.set_cons_succ]
              refine wpAnyH_take (i := 11) (v := undef) rfl (by kernel_rfl) (by kernel_rfl) (by kernel_rfl) (fun _ _ _ h => h) (Or.inr ⟨by kernel_rfl, rfl⟩) (HRW.out w5.drew B0) ?_
              simp only [Act.put, List.setIfInBounds_toArray, List.set_cons_zero, List.set_cons_succ]
              simp only [List.getElem_toArray, List.getElem_cons_succ, List.getElem_cons_zero, Act.put, List.setIfInBounds_toArray, List.set_cons_zero, List.set_cons_succ]
              refine wpAnyH_take (i := 12) (v := undef) rfl (by kernel_rfl) (by kernel_rfl) (by kernel_rfl) (fun _ _ _ h => h) (Or.inr ⟨by kernel_rfl, rfl⟩) (HRW.out w5.drew B0) ?_
              simp only [Act.put, List.setIfInBounds_toArray, List.set_cons_zero, List.set_cons_succ]
              simp only [List.getElem_toArray, List.getElem_cons_succ, List.getElem_cons_zero, Act.put, List.setIfInBounds_toArray, List.set_cons_zero, List.set_cons_succ]
              refine wpAnyH_take (i := 13) (v := undef) rfl (by kernel_rfl) (by kernel_rfl) (by kernel_rfl) (fun _ _ _ h => h) (Or.inr ⟨by kernel_rfl, rfl⟩) (HRW.out w5.drew B0) ?_
              simp only [Act.put, List.setIfInBounds_toArray, List.set_cons_zero, List.set_cons_succ]
              simp only [List.getElem_toArray, List.getElem_cons_succ, List.getElem_cons_zero, Act.put, List.setIfInBounds_toArray, List.set_cons_zero, List.set_cons_succ]
              refine wpAnyH_take (i := 14) (v := undef) rfl (by kernel_rfl) (by kernel_rfl) (by kernel_rfl) (fun _ _ _ h => h) (Or.inr ⟨by kernel_rfl, rfl⟩) (HRW.out w5.drew B0) ?_
              simp only [Act.put, List.setIfInBounds_toArray, List.set_cons_zero, List.set_cons_succ]
              simp only [List.getElem_toArray, List.getElem_cons_succ, List.getElem_cons_zero, Act.put, List.setIfInBounds_toArray, List.set_cons_zero, List.set_cons_succ]
              refine wpAnyH_take (i := 15) (v := undef) rfl (by kernel_rfl) (by kernel_rfl) (by kernel_rfl) (fun _ _ _ h => h) (Or.inr ⟨by kernel_rfl, rfl⟩) (HRW.out w5.drew B0) ?_
              simp only [Act.put, List.setIfInBounds_toArray, List.set_cons_zero, List.set_cons_succ]
              simp only [List.getElem_toArray, List.getElem_cons_succ, List.getElem_cons_zero, Act.put, List.setIfInBounds_toArray, List.set_cons_zero, List.set_cons_succ]
              refine wpAnyH_take (i := 16) (v := undef) rfl (by kernel_rfl) (by kernel_rfl) (by kernel_rfl) (fun _ _ _ h => h) (Or.inr ⟨by kernel_rfl, rfl⟩) (HRW.out w5.drew B0) ?_
              simp only [Act.put, List.setIfInBounds_toArray, List.set_cons_zero, List.set_cons_succ]
              simp only [List.getElem_toArray, List.getElem_cons_succ, List.getElem_cons_zero, Act.put, List.setIfInBounds_toArray, List.set_cons_zero, List.set_cons_succ]
              refine wpAnyH_take (i := 17) (v := undef) rfl (by kernel_rfl) (by kernel_rfl) (by kernel_rfl) (fun _ _ _ h => h) (Or.inr ⟨by kernel_rfl, rfl⟩) (HRW.out w5.drew B0) ?_
              simp only [Act.put, List.setIfInBounds_toArray, List.set_cons_zero, List.set_cons_succ]
              simp only [List.getElem_toArray, List.getElem_cons_succ, List.getElem_cons_zero, Act.put, List.setIfInBounds_toArray, List.set_cons_zero, List.set_cons_succ]
              refine wpAnyH_take (i := 18) (v := undef) rfl (by kernel_rfl) (by kernel_rfl) (by kernel_rfl) (fun _ _ _ h => h) (Or.inr ⟨by kernel_rfl, rfl⟩) (HRW.out w5.drew B0) ?_
              simp only [Act.put, List.setIfInBounds_toArray, List.set_cons_zero, List.set_cons_succ]
              simp only [List.getElem_toArray, List.getElem_cons_succ, List.getElem_cons_zero, Act.put, List.setIfInBounds_toArray, List.set_cons_zero, List.set_cons_succ]
              refine wpAnyH_take (i := 19) (v := undef) rfl (by kernel_rfl) (by kernel_rfl) (by kernel_rfl) (fun _ _ _ h => h) (Or.inr ⟨by kernel_rfl, rfl⟩) (HRW.out w5.drew B0) ?_
              simp only [Act.put, List.setIfInBounds_toArray, List.set_cons_zero, List.set_cons_succ]
              simp only [List.getElem_toArray, List.getElem_cons_succ, List.getElem_cons_zero, Act.put, List.setIfInBounds_toArray, List.set_cons_zero, List.set_cons_succ]
              refine wpAnyH_take (i := 20) (v := undef) rfl (by kernel_rfl) (by kernel_rfl) (by kernel_rfl) (fun _ _ _ h => h) (Or.inr ⟨by kernel_rfl, rfl⟩) (HRW.out w5.drew B0) ?_
              simp only [Act.put, List.setIfInBounds_toArray, List.set_cons_zero, List.set_cons_succ]
              simp only [List.getElem_toArray, List.getElem_cons_succ, List.getElem_cons_zero, Act.put, List.setIfInBounds_toArray, List.set_cons_zero, List.set_cons_succ]
              refine wpAnyH_take (i := 21) (v := undef) rfl (by kernel_rfl) (by kernel_rfl) (by kernel_rfl) (fun _ _ _ h => h) (Or.inr ⟨by kernel_rfl, rfl⟩) (HRW.out w5.drew B0) ?_
              simp only [Act.put, List.setIfInBounds_toArray, List.set_cons_zero, List.set_cons_succ]
              simp only [List.getElem_toArray, List.getElem_cons_succ, List.getElem_cons_zero, Act.put, List.setIfInBounds_toArray, List.set_cons_zero, List.set_cons_succ]
              refine wpAnyH_take (i := 22) (v := undef) rfl (by kernel_rfl) (by kernel_rfl) (by kernel_rfl) (fun _ _ _ h => h) (Or.inr ⟨by kernel_rfl, rfl⟩) (HRW.out w5.drew B0) ?_
              simp only [Act.put, List.setIfInBounds_toArray, List.set_cons_zero, List.set_cons_succ]
              simp only [List.getElem_toArray, List.getElem_cons_succ, List.getElem_cons_zero, Act.put, List.setIfInBounds_toArray, List.set_cons_zero, List.set_cons_succ]
              refine wpAnyH_take (i := 23) (v := undef) rfl (by kernel_rfl) (by kernel_rfl) (by kernel_rfl) (fun _ _ _ h => h) (Or.inr ⟨by kernel_rfl, rfl⟩) (HRW.out w5.drew B0) ?_
              simp only [Act.put, List.setIfInBounds_toArray, List.set_cons_zero, List.set_cons_succ]
              simp only [List.getElem_toArray, List.getElem_cons_succ, List.getElem_cons_zero, Act.put, List.setIfInBounds_toArray, List.set_cons_zero, List.set_cons_succ]
              refine wpAnyH_take (i := 24) (v := undef) rfl (by kernel_rfl) (by kernel_rfl) (by kernel_rfl) (fun _ _ _ h => h) (Or.inr ⟨by kernel_rfl, rfl⟩) (HRW.out w5.drew B0) ?_
              simp only [Act.put, List.setIfInBounds_toArray, List.set_cons_zero, List.set_cons_succ]
              simp only [List.getElem_toArray, List.getElem_cons_succ, List.getElem_cons_zero, Act.put, List.setIfInBounds_toArray, List.set_cons_zero, List.set_cons_succ]
              refine wpAnyH_take (i := 25) (v := undef) rfl (by kernel_rfl) (by kernel_rfl) (by kernel_rfl) (fun _ _ _ h => h) (Or.inr ⟨by kernel_rfl, rfl⟩) (HRW.out w5.drew B0) ?_
              simp only [Act.put, List.setIfInBounds_toArray, List.set_cons_zero, List.set_cons_succ]
              simp only [List.getElem_toArray, List.getElem_cons_succ, List.getElem_cons_zero, Act.put, List.setIfInBounds_toArray, List.set_cons_zero, List.set_cons_succ]
              refine wpAnyH_take (i := 26) (v := undef) rfl (by kernel_rfl) (by kernel_rfl) (by kernel_rfl) (fun _ _ _ h => h) (Or.inr ⟨by kernel_rfl, rfl⟩) (HRW.out w5.drew B0) ?_
              simp only [Act.put, List.setIfInBounds_toArray, List.set_cons_zero, List.set_cons_succ]
              simp only [List.getElem_toArray, List.getElem_cons_succ, List.getElem_cons_zero, Act.put, List.setIfInBounds_toArray, List.set_cons_zero, List.set_cons_succ]
              refine wpAnyH_take (i := 27) (v := .bool false) rfl (by kernel_rfl) (by kernel_rfl) (by kernel_rfl) (fun _ _ _ h => h) (Or.inl ⟨by kernel_rfl, fun u hSu => by go_simp⟩) (HRW.out w5.drew B0) ?_
              simp only [Act.put, List.setIfInBounds_toArray, List.set_cons_zero, List.set_cons_succ]
              simp only [List.getElem_toArray, List.getElem_cons_succ, List.getElem_cons_zero, Act.put, List.setIfInBounds_toArray, List.set_cons_zero, List.set_cons_succ]
              refine wpAnyH_done (by kernel_rfl) ?_ _
              go_wp2_with fail
              go_roundw
              case rel => exact ⟨q + 1, by omega, by go_num, HM5.out _ B0⟩
              case measure => simp [intOf]; omega
            have hd : decide (s ≤ c) = true := decide_eq_true hsc
            have HADD := (show Hid _ from HADDn.out (by have := HMX.out; omega))
            clear HADDn HM5 hsc
            refine wp_region_held_drew (S := fun u => Row u c7 30 [.bool cb, .int .i64 s, .slice da d.length dc, .int .i64 i, .slice ga g.length gc]) (by kernel_rfl) (HRW.out _ B0) (fun hHeld => ?_)
            clear hHeld
            refine wpAnyH_take (i := 0) (v := .pointer (some ⟨c7, 1, none⟩)) rfl (by kernel_rfl) (by kernel_rfl) (by kernel_rfl) (fun _ _ _ h => h) (Or.inl ⟨by kernel_rfl, fun u hSu => by go_simp⟩) (HRW.out w5.drew B0) ?_
            simp only [Act.put, List.setIfInBounds_toArray, List.set_cons_zero, List.set_cons_succ]
            simp only [List.getElem_toArray, List.getElem_cons_succ, List.getElem_cons_zero, Act.put, List.setIfInBounds_toArray, List.set_cons_zero, List.set_cons_succ]
            refine wpAnyH_take (i := 1) (v := .int .i64 s) rfl (by kernel_rfl) (by kernel_rfl) (by kernel_rfl) (fun _ _ _ h => h) (Or.inl ⟨by kernel_rfl, fun u hSu => by have hck := (hSu).cell (j := 1) rfl; go_simp⟩) (HRW.out w5.drew B0) ?_
            simp only [Act.put, List.setIfInBounds_toArray, List.set_cons_zero, List.set_cons_succ]
            simp only [List.getElem_toArray, List.getElem_cons_succ, List.getElem_cons_zero, Act.put, List.setIfInBounds_toArray, List.set_cons_zero, List.set_cons_succ]
            refine wpAnyH_take (i := 2) (v := .int .i64 c) rfl (by kernel_rfl) (by kernel_rfl) (by kernel_rfl) (fun _ _ _ h => h) (Or.inl ⟨by kernel_rfl, fun u hSu => by go_simp⟩) (HRW.out w5.drew B0) ?_
            simp only [Act.put, List.setIfInBounds_toArray, List.set_cons_zero, List.set_cons_succ]
            simp only [List.getElem_toArray, List.getElem_cons_succ, List.getElem_cons_zero, Act.put, List.setIfInBounds_toArray, List.set_cons_zero, List.set_cons_succ]
            refine wpAnyH_take (i := 3) (v := .bool true) rfl (by kernel_rfl) (by kernel_rfl) (by kernel_rfl) (fun _ _ _ h => h) (Or.inl ⟨by kernel_rfl, fun u hSu => by go_simp⟩) (HRW.out w5.drew B0) ?_
            simp only [Act.put, List.setIfInBounds_toArray, List.set_cons_zero, List.set_cons_succ]
            simp only [List.getElem_toArray, List.getElem_cons_succ, List.getElem_cons_zero, Act.put, List.setIfInBounds_toArray, List.set_cons_zero, List.set_cons_succ]
            refine wpAnyH_take (i := 4) (v := .bool true) rfl (by kernel_rfl) (by kernel_rfl) (by kernel_rfl) (fun _ _ _ h => h) (Or.inl ⟨by kernel_rfl, fun u hSu => by go_simp⟩) (HRW.out w5.drew B0) ?_
            simp only [Act.put, List.setIfInBounds_toArray, List.set_cons_zero, List.set_cons_succ]
            simp only [List.getElem_toArray, List.getElem_cons_succ, List.getElem_cons_zero, Act.put, List.setIfInBounds_toArray, List.set_cons_zero, List.set_cons_succ]
            refine wpAnyH_take (i := 5) (v := .pointer (some ⟨b, 0, none⟩)) rfl (by kernel_rfl) (by kernel_rfl) (by kernel_rfl) (fun _ _ _ h => h) (Or.inl ⟨by kernel_rfl, fun u hSu => by go_simp⟩) (HRW.out w5.drew B0) ?_
            simp only [Act.put, List.setIfInBounds_toArray, List.set_cons_zero, List.set_cons_succ]
            refine wpAnyH_take (i := 6) (v := .pointer (some ⟨c7, 1, none⟩)) rfl (by kernel_rfl) (by kernel_rfl) (by kernel_rfl) (fun _ _ _ h => h) (Or.inl ⟨by kernel_rfl, fun u hSu => by go_simp⟩) (HRW.out w5.drew B0) ?_
            simp only [Act.put, List.setIfInBounds_toArray, List.set_cons_zero, List.set_cons_succ]
            refine wpAnyH_take (i := 7) (v := .int .i64 s) rfl (by kernel_rfl) (by kernel_rfl) (by kernel_rfl) (fun _ _ _ h => h) (Or.inl ⟨by kernel_rfl, fun u hSu => by have hck := (hSu).cell (j := 1) rfl; go_simp⟩) (HRW.out w5.drew B0) ?_
            simp only [Act.put, List.setIfInBounds_toArray, List.set_cons_zero, List.set_cons_succ]
            refine wpAnyH_take (i := 9) (v := .pointer (some ⟨c7, 2, none⟩)) rfl (by kernel_rfl) (by kernel_rfl) (by kernel_rfl) (fun _ _ _ h => h) (Or.inl ⟨by kernel_rfl, fun u hSu => by go_simp⟩) (HRW.out w5.drew B0) ?_
            simp only [Act.put, List.setIfInBounds_toArray, List.set_cons_zero, List.set_cons_succ]
            refine wpAnyH_take (i := 10) (v := .slice da d.length dc) rfl (by kernel_rfl) (by kernel_rfl) (by kernel_rfl) (fun _ _ _ h => h) (Or.inl ⟨by kernel_rfl, fun u hSu => by have hck := (hSu).cell (j := 2) rfl; go_simp⟩) (HRW.out w5.drew B0) ?_
            simp only [Act.put, List.setIfInBounds_toArray, List.set_cons_zero, List.set_cons_succ]
            refine wpAnyH_take (i := 12) (v := .pointer (some ⟨c7, 3, none⟩)) rfl (by kernel_rfl) (by kernel_rfl) (by kernel_rfl) (fun _ _ _ h => h) (Or.inl ⟨by kernel_rfl, fun u hSu => by go_simp⟩) (HRW.out w5.drew B0) ?_
            simp only [Act.put, List.setIfInBounds_toArray, List.set_cons_zero, List.set_cons_succ]
            refine wpAnyH_take (i := 13) (v := .agg #[.int .i64 i, .slice ga g.length gc]) rfl (by kernel_rfl) (by kernel_rfl) (by kernel_rfl) (fun _ _ _ h => h) (yieldsIf_load_mid (by kernel_rfl) _ _ rfl c7 3 (by go_simp) [.int .i64 i, .slice ga g.length gc] _ (fun u hSu => Row.midT hSu 3 rfl) Tryd.underlying28 rfl (by kernel_rfl)) (HRW.out w5.drew B0) ?_
            simp only [Act.put, List.setIfInBounds_toArray, List.set_cons_zero, List.set_cons_succ]
            simp only [List.getElem_toArray, List.getElem_cons_succ, List.getElem_cons_zero, Act.put, List.setIfInBounds_toArray, List.set_cons_zero, List.set_cons_succ]
            obtain ⟨u3, hu3⟩ : ∃ x, x = World.alloc w5.drew (.cells #[] 5) := ⟨_, rfl⟩
            have o3 : Own u3 5 (.slice (some ⟨w5.heap.size, 0, none⟩) 0 0) (bc []) := by rw [hu3]; exact own_zero w5.drew _
            have B3 : Below w5.heap.size w5 u3 := by rw [hu3]; exact below_and B0 (Nat.le_refl _) (below_alloc _ _)
            obtain ⟨v9w, hv9⟩ : ∃ x, x = World.alloc w5.drew (.cells #[.int .i64 i, .slice ga g.length gc] 28) := ⟨_, rfl⟩
            have C9 : Below w5.heap.size w5 v9w := by rw [hv9]; exact below_and B0 (Nat.le_refl _) (below_alloc _ _)
            have hc9 := hbs1 w5.drew
            rw [← hv9] at hc9
            refine wpAnyH_ready (rs := [8, 14]) (by kernel_rfl) (by simp) ?_
            refine AllReadyH.cons (o := _) rfl (fun K hK => ?_) (AllReadyH.cons (o := _) rfl (fun K hK => ?_) AllReadyH.nil)
            · clear hc9 C9 hv9
              go_simp
              first | rw [← hu3] | rw [show (World.alloc w5 (.cells #[] 5)).drew = u3 from by rw [hu3]; rfl]
              refine hK.out _ _ (HRW.out u3 B3) (fun hHeld => ?_)
              clear hK K hHeld hu3
              obtain ⟨u9, hu9⟩ : ∃ x, x = World.alloc u3 (.cells #[.int .i64 i, .slice ga g.length gc] 28) := ⟨_, rfl⟩
              have B9 : Below w5.heap.size w5 u9 := by rw [hu9]; exact below_and B3 (Nat.le_refl _) (below_alloc _ _)
              have hb9 := hbs1 u3
              rw [← hu9] at hb9
              refine wpAnyH_ready (rs := [11, 14]) (by kernel_rfl) (by simp) ?_
              refine AllReadyH.cons (o := _) rfl (fun K hK => ?_) (AllReadyH.cons (o := _) rfl (fun K hK => ?_) AllReadyH.nil)
              · clear hb9 B9 hu9
                refine step_bytesW (by kernel_rfl) _ _ (by rfl) (.slice (some ⟨w5.heap.size, 0, none⟩) 0 0) [] (by rfl) o3 (.slice da d.length dc) d (by rfl) (HD.out u3 B3).1.2 HDL.out ?_
                intro v6 u6 happ6
                have B6 : Below w5.heap.size w5 u6 := (B3).trans (happ6.below (fr_at _ _ _ _ (Nat.le_refl _)) (B3).size)
                have R6 : Rd u6 v6 d := Own.rd (l := d) (by simpa using happ6.own) HDB.out
                have g6 := happ6.grown
                obtain ⟨a6, n6, c6, rfl⟩ := own_slice happ6.own
                refine hK.out _ _ (HRW.out u6 B6) (fun hHeld => ?_)
                clear hK K hHeld happ6
                simp only [List.getElem_toArray, List.getElem_cons_succ, List.getElem_cons_zero, Act.put, List.setIfInBounds_toArray, List.set_cons_zero, List.set_cons_succ]
                obtain ⟨u9b, hu9⟩ : ∃ x, x = World.alloc u6 (.cells #[.int .i64 i, .slice ga g.length gc] 28) := ⟨_, rfl⟩
                have B9 : Below w5.heap.size w5 u9b := by rw [hu9]; exact below_and B6 (Nat.le_refl _) (below_alloc _ _)
                have hb9 := hbs1 u6
                rw [← hu9] at hb9
                refine wpAnyH_ready (rs := [14]) (by kernel_rfl) (by simp) ?_
                refine AllReadyH.cons (o := _) rfl (fun K hK => ?_) AllReadyH.nil
                have R9 : RL RVote 2 Any u9b (.slice (some ⟨u6.heap.size, 0, none⟩) 1 1) [(i, g)] := by rw [hu9]; exact rl_oneT (HD.out u6 B6).2 trivial
                have R6 : Rd u9b (.slice a6 n6 c6) d := by rw [hu9]; exact R6.below (below_alloc _ _)
                go_simp
                first | rw [← hu9] | rw [show (World.alloc w5 (.cells #[.int .i64 i, .slice ga g.length gc] 28)).drew = u9b from by rw [hu9]; rfl] | skip
                refine hK.out _ _ (HRW.out u9b B9) (fun hHeld => ?_)
                clear hK K hHeld hb9
                clear hu9
                refine wpAnyH_ready (rs := [15]) (by kernel_rfl) (by simp) ?_
                refine AllReadyH.cons (o := _) rfl (fun K hK => ?_) AllReadyH.nil
                go_simp
                refine (copy1_any u9b _ i g R9 HSG.out).mono ?_
                rintro e u10 ⟨x, y, z, ga2, gc2, rfl, hr10, ht10, b10, hx10⟩
                have B10 := below_and B9 (Nat.le_refl _) b10.out
                have R6 := R6.below b10.out
                try go_simp
                refine hK.out _ _ (HRW.out u10 B10) (fun hHeld => ?_)
                clear hK K hHeld
                refine wpAnyH_take (i := 16) (v := .pointer (some ⟨x, y, none⟩)) rfl (by kernel_rfl) (by kernel_rfl) (by kernel_rfl) (fun _ _ _ h => h) (Or.inl ⟨by kernel_rfl, fun u hSu => by go_simp⟩) (HRW.out u10 B10) ?_
                simp only [Act.put, List.setIfInBounds_toArray, List.set_cons_zero, List.set_cons_succ]
                simp only [List.getElem_toArray, List.getElem_cons_succ, List.getElem_cons_zero, Act.put, List.setIfInBounds_toArray, List.set_cons_zero, List.set_cons_succ]
                refine wpAnyH_ready (rs := [17]) (by kernel_rfl) (by simp) ?_
                refine AllReadyH.cons (o := _) rfl (fun K hK => ?_) AllReadyH.nil
                refine step_loadM (by kernel_rfl) _ _ (by rfl) x y (by rfl) [.int .i64 i, .slice ga2 g.length gc2] _ hr10.out Tryd.underlying28 rfl (by kernel_rfl) ?_
                refine hK.out _ _ (HRW.out u10 B10) (fun hHeld => ?_)
                clear hK K hHeld
                simp only [List.getElem_toArray, List.getElem_cons_succ, List.getElem_cons_zero, Act.put, List.setIfInBounds_toArray, List.set_cons_zero, List.set_cons_succ]
                refine wpAnyH_ready (rs := [18]) (by kernel_rfl) (by simp) ?_
                refine AllReadyH.cons (o := _) rfl (fun K hK => ?_) AllReadyH.nil
                go_simp
                refine (HADD.out u10 _ _ B10 R6 ht10.out.1).mono ?_
                rintro e u13 ⟨nb, rfl, h13⟩
                have S13 := row_gs (HRW.out u10 B10) h13.out.2.1 h13.out.2.2
                try go_simp
                refine hK.out _ _ S13 (fun hHeld => ?_)
                clear hK K hHeld
                refine wpAnyH_take (i := 19) (v := .bool false) rfl (by kernel_rfl) (by kernel_rfl) (by kernel_rfl) (fun _ _ _ h => h) (Or.inl ⟨by kernel_rfl, fun u hSu => by go_simp⟩) S13 ?_
                simp only [Act.put, List.setIfInBounds_toArray, List.set_cons_zero, List.set_cons_succ]
                simp only [List.getElem_toArray, List.getElem_cons_succ, List.getElem_cons_zero, Act.put, List.setIfInBounds_toArray, List.set_cons_zero, List.set_cons_succ]
                refine wpAnyH_take (i := 20) (v := .pointer (some ⟨b, 0, none⟩)) rfl (by kernel_rfl) (by kernel_rfl) (by kernel_rfl) (fun _ _ _ h => h) (Or.inl ⟨by kernel_rfl, fun u hSu => by go_simp⟩) S13 ?_
                simp only [Act.put, List.setIfInBounds_toArray, List.set_cons_zero, List.set_cons_succ]
                simp only [List.getElem_toArray, List.getElem_cons_succ, List.getElem_cons_zero, Act.put, List.setIfInBounds_toArray, List.set_cons_zero, List.set_cons_succ]
                refine wpAnyH_take (i := 23) (v := .slice xa A.length xc) rfl (by kernel_rfl) (by kernel_rfl) (by kernel_rfl) (fun _ _ _ h => h) (Or.inl ⟨by kernel_rfl, fun u hSu => by go_simp⟩) S13 ?_
                simp only [Act.put, List.setIfInBounds_toArray, List.set_cons_zero, List.set_cons_succ]
                simp only [List.getElem_toArray, List.getElem_cons_succ, List.getElem_cons_zero, Act.put, List.setIfInBounds_toArray, List.set_cons_zero, List.set_cons_succ]
                refine wpAnyH_take (i := 24) (v := .int .i64 A.length) rfl (by kernel_rfl) (by kernel_rfl) (by kernel_rfl) (fun _ _ _ h => h) (Or.inl ⟨by kernel_rfl, fun u hSu => by go_simp⟩) S13 ?_
                simp only [Act.put, List.setIfInBounds_toArray, List.set_cons_zero, List.set_cons_succ]
                simp only [List.getElem_toArray, List.getElem_cons_succ, List.getElem_cons_zero, Act.put, List.setIfInBounds_toArray, List.set_cons_zero, List.set_cons_succ]
                refine wpAnyH_ready (rs := [21]) (by kernel_rfl) (by simp) ?_
                refine AllReadyH.cons (o := _) rfl (fun K hK => ?_) AllReadyH.nil
                go_simp
                refine (slotsT_any u13 h13.out.1.1).mono ?_
                rintro e u21 ⟨v21, rfl, hr21, b21⟩
                rw [HSL.out] at hr21
                obtain ⟨x21, y21, rfl, _⟩ := hr21.form
                have S21 := S13.below b21
                try go_simp
                refine hK.out _ _ S21 (fun hHeld => ?_)
                clear hK K hHeld
                refine wpAnyH_take (i := 22) (v := .int .i64 A.length) rfl (by kernel_rfl) (by kernel_rfl) (by kernel_rfl) (fun _ _ _ h => h) (Or.inl ⟨by kernel_rfl, fun u hSu => by go_simp⟩) S21 ?_
                simp only [Act.put, List.setIfInBounds_toArray, List.set_cons_zero, List.set_cons_succ]
                simp only [List.getElem_toArray, List.getElem_cons_succ, List.getElem_cons_zero, Act.put, List.setIfInBounds_toArray, List.set_cons_zero, List.set_cons_succ]
                refine wpAnyH_take (i := 25) (v := .bool false) rfl (by kernel_rfl) (by kernel_rfl) (by kernel_rfl) (fun _ _ _ h => h) (Or.inl ⟨by kernel_rfl, fun u hSu => by go_simp; try simp⟩) S21 ?_
                simp only [Act.put, List.setIfInBounds_toArray, List.set_cons_zero, List.set_cons_succ]
                simp only [List.getElem_toArray, List.getElem_cons_succ, List.getElem_cons_zero, Act.put, List.setIfInBounds_toArray, List.set_cons_zero, List.set_cons_succ]
                refine wpAnyH_take (i := 26) (v := .bool false) rfl (by kernel_rfl) (by kernel_rfl) (by kernel_rfl) (fun _ _ _ h => h) (Or.inl ⟨by kernel_rfl, fun u hSu => by go_simp⟩) S21 ?_
                simp only [Act.put, List.setIfInBounds_toArray, List.set_cons_zero, List.set_cons_succ]
                simp only [List.getElem_toArray, List.getElem_cons_succ, List.getElem_cons_zero, Act.put, List.setIfInBounds_toArray, List.set_cons_zero, List.set_cons_succ]
                refine wpAnyH_take (i := 27) (v := .bool false) rfl (by kernel_rfl) (by kernel_rfl) (by kernel_rfl) (fun _ _ _ h => h) (Or.inl ⟨by kernel_rfl, fun u hSu => by go_simp⟩) S21 ?_
                simp only [Act.put, List.setIfInBounds_toArray, List.set_cons_zero, List.set_cons_succ]
                simp only [List.getElem_toArray, List.getElem_cons_succ, List.getElem_cons_zero, Act.put, List.setIfInBounds_toArray, List.set_cons_zero, List.set_cons_succ]
                refine wpAnyH_done (by kernel_rfl) ?_ _
                go_wp2_with fail
                go_roundw
                case rel => exact ⟨q + 1, by omega, by go_num, h13.out.1.below b21⟩
                case measure => simp [intOf]; omega
              · have R9 : RL RVote 2 (fun k => k ≠ w5.heap.size) u9 (.slice (some ⟨u3.heap.size, 0, none⟩) 1 1) [(i, g)] := by rw [hu9]; exact rl_oneT (((HD.out w5 (Below.refl _ _)).2.mv (G' := fun k => k ≠ w5.heap.size) (fun k _ hlt => ⟨rfl, by omega⟩)).mv (Mv.belowG B3)) (by have := (own_lt0 o3); omega)
                have o9 : Own u9 5 (.slice (some ⟨w5.heap.size, 0, none⟩) 0 0) (bc []) := by rw [hu9]; exact o3.below (below_alloc _ _)
                go_simp
                first | rw [← hu9] | rw [show (World.alloc w5 (.cells #[.int .i64 i, .slice ga g.length gc] 28)).drew = u9 from by rw [hu9]; rfl] | skip
                refine hK.out _ _ (HRW.out u9 B9) (fun hHeld => ?_)
                clear hK K hHeld hb9
                clear hu9
                refine wpAnyH_ready (rs := [11]) (by kernel_rfl) (by simp) ?_
                refine AllReadyH.cons (o := _) rfl (fun K hK => ?_) AllReadyH.nil
                refine step_bytesW (by kernel_rfl) _ _ (by rfl) (.slice (some ⟨w5.heap.size, 0, none⟩) 0 0) [] (by rfl) o9 (.slice da d.length dc) d (by rfl) (HD.out u9 B9).1.2 HDL.out ?_
                intro v6 u6 happ6
                have B6 : Below w5.heap.size w5 u6 := (B9).trans (happ6.below (fr_at _ _ _ _ (Nat.le_refl _)) (B9).size)
                have R6 : Rd u6 v6 d := Own.rd (l := d) (by simpa using happ6.own) HDB.out
                have g6 := happ6.grown
                obtain ⟨a6, n6, c6, rfl⟩ := own_slice happ6.own
                refine hK.out _ _ (HRW.out u6 B6) (fun hHeld => ?_)
                clear hK K hHeld happ6
                simp only [List.getElem_toArray, List.getElem_cons_succ, List.getElem_cons_zero, Act.put, List.setIfInBounds_toArray, List.set_cons_zero, List.set_cons_succ]
                have R9 := R9.mv (G' := Any) mov_vote g6.size (fun k hk hlt => ⟨g6.block k hlt (fun e => hk (Option.some.inj e)), trivial⟩)
                refine wpAnyH_ready (rs := [15]) (by kernel_rfl) (by simp) ?_
                refine AllReadyH.cons (o := _) rfl (fun K hK => ?_) AllReadyH.nil
                go_simp
                refine (copy1_any u6 _ i g R9 HSG.out).mono ?_
                rintro e u10 ⟨x, y, z, ga2, gc2, rfl, hr10, ht10, b10, hx10⟩
                have B10 := below_and B6 (Nat.le_refl _) b10.out
                have R6 := R6.below b10.out
                try go_simp
                refine hK.out _ _ (HRW.out u10 B10) (fun hHeld => ?_)
                clear hK K hHeld
                refine wpAnyH_take (i := 16) (v := .pointer (some ⟨x, y, none⟩)) rfl (by kernel_rfl) (by kernel_rfl) (by kernel_rfl) (fun _ _ _ h => h) (Or.inl ⟨by kernel_rfl, fun u hSu => by go_simp⟩) (HRW.out u10 B10) ?_
                simp only [Act.put, List.setIfInBounds_toArray, List.set_cons_zero, List.set_cons_succ]
                simp only [List.getElem_toArray, List.getElem_cons_succ, List.getElem_cons_zero, Act.put, List.setIfInBounds_toArray, List.set_cons_zero, List.set_cons_succ]
                refine wpAnyH_ready (rs := [17]) (by kernel_rfl) (by simp) ?_
                refine AllReadyH.cons (o := _) rfl (fun K hK => ?_) AllReadyH.nil
                refine step_loadM (by kernel_rfl) _ _ (by rfl) x y (by rfl) [.int .i64 i, .slice ga2 g.length gc2] _ hr10.out Tryd.underlying28 rfl (by kernel_rfl) ?_
                refine hK.out _ _ (HRW.out u10 B10) (fun hHeld => ?_)
                clear hK K hHeld
                simp only [List.getElem_toArray, List.getElem_cons_succ, List.getElem_cons_zero, Act.put, List.setIfInBounds_toArray, List.set_cons_zero, List.set_cons_succ]
                refine wpAnyH_ready (rs := [18]) (by kernel_rfl) (by simp) ?_
                refine AllReadyH.cons (o := _) rfl (fun K hK => ?_) AllReadyH.nil
                go_simp
                refine (HADD.out u10 _ _ B10 R6 ht10.out.1).mono ?_
                rintro e u13 ⟨nb, rfl, h13⟩
                have S13 := row_gs (HRW.out u10 B10) h13.out.2.1 h13.out.2.2
                try go_simp
                refine hK.out _ _ S13 (fun hHeld => ?_)
                clear hK K hHeld
                refine wpAnyH_take (i := 19) (v := .bool false) rfl (by kernel_rfl) (by kernel_rfl) (by kernel_rfl) (fun _ _ _ h => h) (Or.inl ⟨by kernel_rfl, fun u hSu => by go_simp⟩) S13 ?_
                simp only [Act.put, List.setIfInBounds_toArray, List.set_cons_zero, List.set_cons_succ]
                simp only [List.getElem_toArray, List.getElem_cons_succ, List.getElem_cons_zero, Act.put, List.setIfInBounds_toArray, List.set_cons_zero, List.set_cons_succ]
                refine wpAnyH_take (i := 20) (v := .pointer (some ⟨b, 0, none⟩)) rfl (by kernel_rfl) (by kernel_rfl) (by kernel_rfl) (fun _ _ _ h => h) (Or.inl ⟨by kernel_rfl, fun u hSu => by go_simp⟩) S13 ?_
                simp only [Act.put, List.setIfInBounds_toArray, List.set_cons_zero, List.set_cons_succ]
                simp only [List.getElem_toArray, List.getElem_cons_succ, List.getElem_cons_zero, Act.put, List.setIfInBounds_toArray, List.set_cons_zero, List.set_cons_succ]
                refine wpAnyH_take (i := 23) (v := .slice xa A.length xc) rfl (by kernel_rfl) (by kernel_rfl) (by kernel_rfl) (fun _ _ _ h => h) (Or.inl ⟨by kernel_rfl, fun u hSu => by go_simp⟩) S13 ?_
                simp only [Act.put, List.setIfInBounds_toArray, List.set_cons_zero, List.set_cons_succ]
                simp only [List.getElem_toArray, List.getElem_cons_succ, List.getElem_cons_zero, Act.put, List.setIfInBounds_toArray, List.set_cons_zero, List.set_cons_succ]
                refine wpAnyH_take (i := 24) (v := .int .i64 A.length) rfl (by kernel_rfl) (by kernel_rfl) (by kernel_rfl) (fun _ _ _ h => h) (Or.inl ⟨by kernel_rfl, fun u hSu => by go_simp⟩) S13 ?_
                simp only [Act.put, List.setIfInBounds_toArray, List.set_cons_zero, List.set_cons_succ]
                simp only [List.getElem_toArray, List.getElem_cons_succ, List.getElem_cons_zero, Act.put, List.setIfInBounds_toArray, List.set_cons_zero, List.set_cons_succ]
                refine wpAnyH_ready (rs := [21]) (by kernel_rfl) (by simp) ?_
                refine AllReadyH.cons (o := _) rfl (fun K hK => ?_) AllReadyH.nil
                go_simp
                refine (slotsT_any u13 h13.out.1.1).mono ?_
                rintro e u21 ⟨v21, rfl, hr21, b21⟩
                rw [HSL.out] at hr21
                obtain ⟨x21, y21, rfl, _⟩ := hr21.form
                have S21 := S13.below b21
                try go_simp
                refine hK.out _ _ S21 (fun hHeld => ?_)
                clear hK K hHeld
                refine wpAnyH_take (i := 22) (v := .int .i64 A.length) rfl (by kernel_rfl) (by kernel_rfl) (by kernel_rfl) (fun _ _ _ h => h) (Or.inl ⟨by kernel_rfl, fun u hSu => by go_simp⟩) S21 ?_
                simp only [Act.put, List.setIfInBounds_toArray, List.set_cons_zero, List.set_cons_succ]
                simp only [List.getElem_toArray, List.getElem_cons_succ, List.getElem_cons_zero, Act.put, List.setIfInBounds_toArray, List.set_cons_zero, List.set_cons_succ]
                refine wpAnyH_take (i := 25) (v := .bool false) rfl (by kernel_rfl) (by kernel_rfl) (by kernel_rfl) (fun _ _ _ h => h) (Or.inl ⟨by kernel_rfl, fun u hSu => by go_simp; try simp⟩) S21 ?_
                simp only [Act.put, List.setIfInBounds_toArray, List.set_cons_zero, List.set_cons_succ]
                simp only [List.getElem_toArray, List.getElem_cons_succ, List.getElem_cons_zero, Act.put, List.setIfInBounds_toArray, List.set_cons_zero, List.set_cons_succ]
                refine wpAnyH_take (i := 26) (v := .bool false) rfl (by kernel_rfl) (by kernel_rfl) (by kernel_rfl) (fun _ _ _ h => h) (Or.inl ⟨by kernel_rfl, fun u hSu => by go_simp⟩) S21 ?_
                simp only [Act.put, List.setIfInBounds_toArray, List.set_cons_zero, List.set_cons_succ]
                simp only [List.getElem_toArray, List.getElem_cons_succ, List.getElem_cons_zero, Act.put, List.setIfInBounds_toArray, List.set_cons_zero, List.set_cons_succ]
                refine wpAnyH_take (i := 27) (v := .bool false) rfl (by kernel_rfl) (by kernel_rfl) (by kernel_rfl) (fun _ _ _ h => h) (Or.inl ⟨by kernel_rfl, fun u hSu => by go_simp⟩) S21 ?_
                simp only [Act.put, List.setIfInBounds_toArray, List.set_cons_zero, List.set_cons_succ]
                simp only [List.getElem_toArray, List.getElem_cons_succ, List.getElem_cons_zero, Act.put, List.setIfInBounds_toArray, List.set_cons_zero, List.set_cons_succ]
                refine wpAnyH_done (by kernel_rfl) ?_ _
                go_wp2_with fail
                go_roundw
                case rel => exact ⟨q + 1, by omega, by go_num, h13.out.1.below b21⟩
                case measure => simp [intOf]; omega
            · clear hu3 o3 B3
              have R9 : RL RVote 2 Any v9w (.slice (some ⟨w5.heap.size, 0, none⟩) 1 1) [(i, g)] := by rw [hv9]; exact rl_oneT (w := w5.drew) (HD.out w5.drew B0).2 trivial
              have hv9s : w5.heap.size < v9w.heap.size := by rw [hv9]; simp
              go_simp
              first | rw [← hv9] | rw [show (World.alloc w5 (.cells #[.int .i64 i, .slice ga g.length gc] 28)).drew = v9w from by rw [hv9]; rfl] | skip
              refine hK.out _ _ (HRW.out v9w C9) (fun hHeld => ?_)
              clear hK K hHeld hc9
              clear hv9
              obtain ⟨u3b, hu3⟩ : ∃ x, x = World.alloc v9w (.cells #[] 5) := ⟨_, rfl⟩
              have o3 : Own u3b 5 (.slice (some ⟨v9w.heap.size, 0, none⟩) 0 0) (bc []) := by rw [hu3]; exact own_zero v9w _
              have B3 : Below w5.heap.size w5 u3b := by rw [hu3]; exact below_and C9 (Nat.le_refl _) (below_alloc _ _)
              refine wpAnyH_ready (rs := [8]) (by kernel_rfl) (by simp) ?_
              refine AllReadyH.cons (o := _) rfl (fun K hK => ?_) AllReadyH.nil
              have R9 : RL RVote 2 (fun k => k ≠ v9w.heap.size) u3b (.slice (some ⟨w5.heap.size, 0, none⟩) 1 1) [(i, g)] := by rw [hu3]; exact (R9.mv (G' := fun k => k ≠ v9w.heap.size) mov_vote (Nat.le_refl _) (fun k _ hlt => ⟨rfl, by omega⟩)).mv mov_vote (below_alloc _ _).size (Mv.belowG (below_alloc _ _))
              go_simp
              first | rw [← hu3] | rw [show (World.alloc w5 (.cells #[] 5)).drew = u3b from by rw [hu3]; rfl]
              refine hK.out _ _ (HRW.out u3b B3) (fun hHeld => ?_)
              clear hK K hHeld hu3
              refine wpAnyH_ready (rs := [11]) (by kernel_rfl) (by simp) ?_
              refine AllReadyH.cons (o := _) rfl (fun K hK => ?_) AllReadyH.nil
              refine step_bytesW (by kernel_rfl) _ _ (by rfl) (.slice (some ⟨v9w.heap.size, 0, none⟩) 0 0) [] (by rfl) o3 (.slice da d.length dc) d (by rfl) (HD.out u3b B3).1.2 HDL.out ?_
              intro v6 u6 happ6
              have B6 : Below w5.heap.size w5 u6 := (B3).trans (happ6.below (fr_at _ _ _ _ (by omega)) (B3).size)
              have R6 : Rd u6 v6 d := Own.rd (l := d) (by simpa using happ6.own) HDB.out
              have g6 := happ6.grown
              obtain ⟨a6, n6, c6, rfl⟩ := own_slice happ6.own
              refine hK.out _ _ (HRW.out u6 B6) (fun hHeld => ?_)
              clear hK K hHeld happ6
              simp only [List.getElem_toArray, List.getElem_cons_succ, List.getElem_cons_zero, Act.put, List.setIfInBounds_toArray, List.set_cons_zero, List.set_cons_succ]
              have R9 := R9.mv (G' := Any) mov_vote g6.size (fun k hk hlt => ⟨g6.block k hlt (fun e => hk (Option.some.inj e)), trivial⟩)
              refine wpAnyH_ready (rs := [15]) (by kernel_rfl) (by simp) ?_
              refine AllReadyH.cons (o := _) rfl (fun K hK => ?_) AllReadyH.nil
              go_simp
              refine (copy1_any u6 _ i g R9 HSG.out).mono ?_
              rintro e u10 ⟨x, y, z, ga2, gc2, rfl, hr10, ht10, b10, hx10⟩
              have B10 := below_and B6 (Nat.le_refl _) b10.out
              have R6 := R6.below b10.out
              try go_simp
              refine hK.out _ _ (HRW.out u10 B10) (fun hHeld => ?_)
              clear hK K hHeld
              refine wpAnyH_take (i := 16) (v := .pointer (some ⟨x, y, none⟩)) rfl (by kernel_rfl) (by kernel_rfl) (by kernel_rfl) (fun _ _ _ h => h) (Or.inl ⟨by kernel_rfl, fun u hSu => by go_simp⟩) (HRW.out u10 B10) ?_
              simp only [Act.put, List.setIfInBounds_toArray, List.set_cons_zero, List.set_cons_succ]
              simp only [List.getElem_toArray, List.getElem_cons_succ, List.getElem_cons_zero, Act.put, List.setIfInBounds_toArray, List.set_cons_zero, List.set_cons_succ]
              refine wpAnyH_ready (rs := [17]) (by kernel_rfl) (by simp) ?_
              refine AllReadyH.cons (o := _) rfl (fun K hK => ?_) AllReadyH.nil
              refine step_loadM (by kernel_rfl) _ _ (by rfl) x y (by rfl) [.int .i64 i, .slice ga2 g.length gc2] _ hr10.out Tryd.underlying28 rfl (by kernel_rfl) ?_
              refine hK.out _ _ (HRW.out u10 B10) (fun hHeld => ?_)
              clear hK K hHeld
              simp only [List.getElem_toArray, List.getElem_cons_succ, List.getElem_cons_zero, Act.put, List.setIfInBounds_toArray, List.set_cons_zero, List.set_cons_succ]
              refine wpAnyH_ready (rs := [18]) (by kernel_rfl) (by simp) ?_
              refine AllReadyH.cons (o := _) rfl (fun K hK => ?_) AllReadyH.nil
              go_simp
              refine (HADD.out u10 _ _ B10 R6 ht10.out.1).mono ?_
              rintro e u13 ⟨nb, rfl, h13⟩
              have S13 := row_gs (HRW.out u10 B10) h13.out.2.1 h13.out.2.2
              try go_simp
              refine hK.out _ _ S13 (fun hHeld => ?_)
              clear hK K hHeld
              refine wpAnyH_take (i := 19) (v := .bool false) rfl (by kernel_rfl) (by kernel_rfl) (by kernel_rfl) (fun _ _ _ h => h) (Or.inl ⟨by kernel_rfl, fun u hSu => by go_simp⟩) S13 ?_
              simp only [Act.put, List.setIfInBounds_toArray, List.set_cons_zero, List.set_cons_succ]
              simp only [List.getElem_toArray, List.getElem_cons_succ, List.getElem_cons_zero, Act.put, List.setIfInBounds_toArray, List.set_cons_zero, List.set_cons_succ]
              refine wpAnyH_take (i := 20) (v := .pointer (some ⟨b, 0, none⟩)) rfl (by kernel_rfl) (by kernel_rfl) (by kernel_rfl) (fun _ _ _ h => h) (Or.inl ⟨by kernel_rfl, fun u hSu => by go_simp⟩) S13 ?_
              simp only [Act.put, List.setIfInBounds_toArray, List.set_cons_zero, List.set_cons_succ]
              simp only [List.getElem_toArray, List.getElem_cons_succ, List.getElem_cons_zero, Act.put, List.setIfInBounds_toArray, List.set_cons_zero, List.set_cons_succ]
              refine wpAnyH_take (i := 23) (v := .slice xa A.length xc) rfl (by kernel_rfl) (by kernel_rfl) (by kernel_rfl) (fun _ _ _ h => h) (Or.inl ⟨by kernel_rfl, fun u hSu => by go_simp⟩) S13 ?_
              simp only [Act.put, List.setIfInBounds_toArray, List.set_cons_zero, List.set_cons_succ]
              simp only [List.getElem_toArray, List.getElem_cons_succ, List.getElem_cons_zero, Act.put, List.setIfInBounds_toArray, List.set_cons_zero, List.set_cons_succ]
              refine wpAnyH_take (i := 24) (v := .int .i64 A.length) rfl (by kernel_rfl) (by kernel_rfl) (by kernel_rfl) (fun _ _ _ h => h) (Or.inl ⟨by kernel_rfl, fun u hSu => by go_simp⟩) S13 ?_
              simp only [Act.put, List.setIfInBounds_toArray, List.set_cons_zero, List.set_cons_succ]
              simp only [List.getElem_toArray, List.getElem_cons_succ, List.getElem_cons_zero, Act.put, List.setIfInBounds_toArray, List.set_cons_zero, List.set_cons_succ]
              refine wpAnyH_ready (rs := [21]) (by kernel_rfl) (by simp) ?_
              refine AllReadyH.cons (o := _) rfl (fun K hK => ?_) AllReadyH.nil
              go_simp
              refine (slotsT_any u13 h13.out.1.1).mono ?_
              rintro e u21 ⟨v21, rfl, hr21, b21⟩
              rw [HSL.out] at hr21
              obtain ⟨x21, y21, rfl, _⟩ := hr21.form
              have S21 := S13.below b21
              try go_simp
              refine hK.out _ _ S21 (fun hHeld => ?_)
              clear hK K hHeld
              refine wpAnyH_take (i := 22) (v := .int .i64 A.length) rfl (by kernel_rfl) (by kernel_rfl) (by kernel_rfl) (fun _ _ _ h => h) (Or.inl ⟨by kernel_rfl, fun u hSu => by go_simp⟩) S21 ?_
              simp only [Act.put, List.setIfInBounds_toArray, List.set_cons_zero, List.set_cons_succ]
              simp only [List.getElem_toArray, List.getElem_cons_succ, List.getElem_cons_zero, Act.put, List.setIfInBounds_toArray, List.set_cons_zero, List.set_cons_succ]
              refine wpAnyH_take (i := 25) (v := .bool false) rfl (by kernel_rfl) (by kernel_rfl) (by kernel_rfl) (fun _ _ _ h => h) (Or.inl ⟨by kernel_rfl, fun u hSu => by go_simp; try simp⟩) S21 ?_
              simp only [Act.put, List.setIfInBounds_toArray, List.set_cons_zero, List.set_cons_succ]
              simp only [List.getElem_toArray, List.getElem_cons_succ, List.getElem_cons_zero, Act.put, List.setIfInBounds_toArray, List.set_cons_zero, List.set_cons_succ]
              refine wpAnyH_take (i := 26) (v := .bool false) rfl (by kernel_rfl) (by kernel_rfl) (by kernel_rfl) (fun _ _ _ h => h) (Or.inl ⟨by kernel_rfl, fun u hSu => by go_simp⟩) S21 ?_
              simp only [Act.put, List.setIfInBounds_toArray, List.set_cons_zero, List.set_cons_succ]
              simp only [List.getElem_toArray, List.getElem_cons_succ, List.getElem_cons_zero, Act.put, List.setIfInBounds_toArray, List.set_cons_zero, List.set_cons_succ]
              refine wpAnyH_take (i := 27) (v := .bool false) rfl (by kernel_rfl) (by kernel_rfl) (by kernel_rfl) (fun _ _ _ h => h) (Or.inl ⟨by kernel_rfl, fun u hSu => by go_simp⟩) S21 ?_
              simp only [Act.put, List.setIfInBounds_toArray, List.set_cons_zero, List.set_cons_succ]
              simp only [List.getElem_toArray, List.getElem_cons_succ, List.getElem_cons_zero, Act.put, List.setIfInBounds_toArray, List.set_cons_zero, List.set_cons_succ]
              refine wpAnyH_done (by kernel_rfl) ?_ _
              go_wp2_with fail
              go_roundw
              case rel => exact ⟨q + 1, by omega, by go_num, h13.out.1.below b21⟩
              case measure => simp [intOf]; omega
end Go.Proofs.YtgpkngiakhdmhaaDoor
