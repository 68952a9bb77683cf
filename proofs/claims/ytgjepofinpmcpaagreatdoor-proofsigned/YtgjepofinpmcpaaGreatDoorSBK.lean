/- The walks over package clone: what was prepared, reports. Written by mk12s.py. -/
import Derived.Test.YtgjepofinpmcpaaGreatDoorSBI
import Derived.Test.YtgjepofinpmcpaaGreatDoorSAY
import Derived.Lib.SliceRun
set_option linter.unusedSimpArgs false
set_option linter.unusedVariables false
namespace Go.Proofs.YtgjepofinpmcpaaGreatDoor
open Go.RowKit Oct
set_option maxRecDepth 10000 in
set_option maxHeartbeats 4000000 in
theorem clonePrepS_any (w : World) (r : List Value) (x : PPrep) (h : RPrep Any w r x) (hz : szP x) :
    Calls Tryz.prog 159 #[.agg r.toArray] w fun e w' => ∃ r', e = .returned (.agg r'.toArray) ∧ RPrep (From w.heap.size) w' r' x ∧ Below w.heap.size w w' := by
  obtain ⟨o1, o2, o3, rfl, t1, t2, t3⟩ := h
  obtain ⟨w2, hw2⟩ : ∃ w2, w2 = (w.alloc (.cells #[.int .i64 x.1, .int .i64 x.2.1.1, .int .i64 x.2.1.2, .int .i64 x.2.2.1.1, .int .i64 x.2.2.1.2.1, o1, o2, o3] 107)).alloc (.cells #[.int .i64 0, .int .i64 0, .int .i64 0, .int .i64 0, .int .i64 0, .slice none 0 0, .slice none 0 0, .slice none 0 0] 107) := ⟨_, rfl⟩
  have ra : Row w2 w.heap.size 107 [.int .i64 x.1, .int .i64 x.2.1.1, .int .i64 x.2.1.2, .int .i64 x.2.2.1.1, .int .i64 x.2.2.1.2.1, o1, o2, o3] := by rw [hw2]; exact rowA (Row.new w 107 _) _
  have rr : Row w2 (w.heap.size + 1) 107 [.int .i64 0, .int .i64 0, .int .i64 0, .int .i64 0, .int .i64 0, .slice none 0 0, .slice none 0 0, .slice none 0 0] := by
    have h1 : (w.alloc (.cells #[.int .i64 x.1, .int .i64 x.2.1.1, .int .i64 x.2.1.2, .int .i64 x.2.2.1.1, .int .i64 x.2.2.1.2.1, o1, o2, o3] 107)).heap.size = w.heap.size + 1 := by simp
    rw [hw2, ← h1]
    exact Row.new (w.alloc (.cells #[.int .i64 x.1, .int .i64 x.2.1.1, .int .i64 x.2.1.2, .int .i64 x.2.2.1.1, .int .i64 x.2.2.1.2.1, o1, o2, o3] 107)) 107 [.int .i64 0, .int .i64 0, .int .i64 0, .int .i64 0, .int .i64 0, .slice none 0 0, .slice none 0 0, .slice none 0 0]
  have B : Below w.heap.size w w2 := by rw [hw2]; exact ((Below.refl _ w).alloc (Nat.le_refl _) _).alloc (by simp) _
  have hC : w.heap.size + 2 ≤ w2.heap.size := by rw [hw2]; simp
  go_enter Tryz.func159, Tryz.ntmps159
  go_upto_region 1 with fail
  rw [← hw2]
  clear hw2
  have hI : RReq Any w2 [.int .i64 x.2.2.1.1, .int .i64 x.2.2.1.2.1, o1, o2] (x.2.2.1) := ⟨_, _, rfl, t1.mv (Mv.below B), t2.mv (Mv.below B)⟩
  have hG := cloneReqS_any w2 _ _ hI hz.1
  have hrng : World.rangeAt w2 w.heap.size 3 [.int .i64 x.2.2.1.1, .int .i64 x.2.2.1.2.1, o1, o2] := fun q u hq => ra.cell (j := 3 + q) (by
    match q, hq with
    | 0, hq => exact hq
    | 1, hq => exact hq
    | 2, hq => exact hq
    | 3, hq => exact hq)
  go_upto_region 2 with (first
    | (refine wpList_load_mid rfl _ _ rfl w.heap.size 3 rfl [.int .i64 x.2.2.1.1, .int .i64 x.2.2.1.2.1, o1, o2] _ hrng Tryz.underlying34 rfl (by kernel_rfl) ?_)
    | (go_at_call 61; refine hG.mono ?_; rintro e wa0 ⟨rq0, rfl, hq0, hb0⟩; obtain ⟨a0, b0, rfl, fa0, fb0⟩ := hq0; have rai := ra.below hb0)
    | (refine wl_put rfl _ _ _ rfl w.heap.size 3 [.int .i64 x.2.2.1.1, .int .i64 x.2.2.1.2.1, a0, b0] rfl rfl _ _ rai (show 7 ≤ 8 by decide) (by kernel_rfl) (one4 fa0.one fb0.one) ?_; intro wb0 rbi hg0))
  clear hrng
  have ra : Row wb0 w.heap.size 107 [.int .i64 x.1, .int .i64 x.2.1.1, .int .i64 x.2.1.2, .int .i64 x.2.2.1.1, .int .i64 x.2.2.1.2.1, a0, b0, o3] := rbi.out
  have rr := (rr.below hb0).grown hg0 (fun h => by injection h; omega)
  have fa0 := ((fa0.mv (Mv.weak (L := w.heap.size + 2) hC)).mv (Mv.from hg0 (by omega) (Nat.le_refl _)))
  have fb0 := ((fb0.mv (Mv.weak (L := w.heap.size + 2) hC)).mv (Mv.from hg0 (by omega) (Nat.le_refl _)))
  have B : Below w.heap.size w wb0 := (below_and B (Nat.le_refl _) hb0).trans (grown_below hg0 (below_and B (Nat.le_refl _) hb0).size (fun k hk => by cases hk; exact Nat.le_refl _))
  have hC := Nat.le_trans hC (Nat.le_trans hb0.size hg0.size)
  clear hG hI rai rbi hb0 hg0
  have hI := (t3.mv mov_vote B.size (Mv.below B))
  have cI := ra.cell (j := 7) rfl
  have hG := cvotesS_any wb0 _ _ hI (hz.2)
  go_upto_region 3 with (first
    | (go_at_call 143; refine hG.mono ?_; rintro e wa1 ⟨v1, rfl, f1, hb1⟩; have rai := ra.below hb1)
    | (refine wl_set rfl _ _ _ rfl w.heap.size 7 _ rfl rfl _ _ rai (show 7 < 8 by decide) (by kernel_rfl) f1.one ?_; intro wb1 rbi hg1))
  have ra : Row wb1 w.heap.size 107 [.int .i64 x.1, .int .i64 x.2.1.1, .int .i64 x.2.1.2, .int .i64 x.2.2.1.1, .int .i64 x.2.2.1.2.1, a0, b0, v1] := rbi.out
  have rr := (rr.below hb1).grown hg1 (fun h => by injection h; omega)
  have fa0 := ((fa0.mv (Mv.belowF hb1 (Nat.le_refl _))).mv (Mv.from hg1 (by omega) (Nat.le_refl _)))
  have fb0 := ((fb0.mv (Mv.belowF hb1 (Nat.le_refl _))).mv (Mv.from hg1 (by omega) (Nat.le_refl _)))
  have f1 := ((f1.mv mov_vote (Nat.le_refl _) (Mv.weak (L := w.heap.size + 2) hC)).mv mov_vote hg1.size (Mv.from hg1 (by omega) (Nat.le_refl _)))
  have B : Below w.heap.size w wb1 := (below_and B (Nat.le_refl _) hb1).trans (grown_below hg1 (below_and B (Nat.le_refl _) hb1).size (fun k hk => by cases hk; exact Nat.le_refl _))
  have hC := Nat.le_trans hC (Nat.le_trans hb1.size hg1.size)
  clear hG hI rai rbi hb1 hg1 cI
  have hone : ∀ v ∈ [.int .i64 x.1, .int .i64 x.2.1.1, .int .i64 x.2.1.2, .int .i64 x.2.2.1.1, .int .i64 x.2.2.1.2.1, a0, b0, v1], v.oneCell' = true := by
    intro v hv
    have k_fa0 := fa0.one; have k_fb0 := fb0.one; have k_f1 := f1.one
    simp only [List.mem_cons, List.not_mem_nil, or_false] at hv
    rcases hv with rfl | rfl | rfl | rfl | rfl | rfl | rfl | rfl <;> first | rfl | assumption
  go_wp2_with (first
    | (refine wl_load rfl _ _ rfl w.heap.size rfl _ _ ra _ Tryz.underlying107 rfl (by kernel_rfl) ?_)
    | (refine wl_store rfl _ _ _ rfl (w.heap.size + 1) [.int .i64 x.1, .int .i64 x.2.1.1, .int .i64 x.2.1.2, .int .i64 x.2.2.1.1, .int .i64 x.2.2.1.2.1, a0, b0, v1] rfl rfl _ _ rr rfl (by kernel_rfl) hone ?_; intro w9 rr9 hg9))
  have B9 : Below w.heap.size w w9 := B.trans (grown_below hg9 B.size (fun k hk => by cases hk; omega))
  have fa0 := ((fa0.mv (Mv.from hg9 (by omega) (Nat.le_refl _))).mv (Mv.weak (L := w.heap.size) (by omega)))
  have fb0 := ((fb0.mv (Mv.from hg9 (by omega) (Nat.le_refl _))).mv (Mv.weak (L := w.heap.size) (by omega)))
  have f1 := ((f1.mv mov_vote hg9.size (Mv.from hg9 (by omega) (Nat.le_refl _))).mv mov_vote (Nat.le_refl _) (Mv.weak (L := w.heap.size) (by omega)))
  refine bodyPost_ret (v := .agg ([.int .i64 x.1, .int .i64 x.2.1.1, .int .i64 x.2.1.2, .int .i64 x.2.2.1.1, .int .i64 x.2.2.1.2.1, a0, b0, v1] : List Value).toArray) (results_cell_row rfl _ _ (w.heap.size + 1) _ _ (0, 0) _ (by rfl) rr9.out Tryz.underlying107 rfl (by kernel_rfl)) rfl ?_
  exact ⟨_, rfl, ⟨_, _, _, rfl, fa0, fb0, f1⟩, B9⟩
theorem Tryz.infPrepS : (Tryz.prog.info? 107).map (fun i => (i.zero, i.size, i.bytes)) = some (some (.agg #[.int .i64 0, .int .i64 0, .int .i64 0, .int .i64 0, .int .i64 0, .slice none 0 0, .slice none 0 0, .slice none 0 0]), 8, 112) := by kernel_rfl
set_option maxRecDepth 10000 in
/-- slices.Clone of sessions. -/
theorem sclonePrep_any (w : World) (v : Value) (ys : List PPrep) (h : RL RPrep 8 Any w v ys) (hz : szL 112 szP ys) :
    Calls Tryz.prog 165 #[v] w fun e w' => ∃ v', e = .returned v' ∧ Below w.heap.size w w' ∧ ∃ rows, w'.ownsRow w.heap.size 107 8 v' ys.length rows.flatten ∧ (∀ r ∈ rows, r.length = 8) ∧ All2 (RPrep Any w) rows ys := by
  obtain ⟨rows, ⟨h0, h1⟩, h2⟩ := h
  have hlen := h2.len
  have hz1 := hz.1
  have hfl := flat_len h0
  have hone : ∀ u ∈ rows.flatten, u.oneCell' = true := by
    intro u hu
    obtain ⟨r, hr, hur⟩ := List.mem_flatten.1 hu
    obtain ⟨i, hi, rfl⟩ := List.getElem_of_mem hr
    have := h2.get (List.getElem?_eq_getElem hi) (List.getElem?_eq_getElem (by omega))
    exact one_RPrep this u hur
  have hcell : ∀ b off, (∀ (i : Nat) (r : List Value), rows[i]? = some r → w.rangeAt b (off + i * 8) r) → ∀ j u, rows.flatten[j]? = some u → w.cell? ⟨b, off + j, none⟩ = some u := by
    intro b off hr j u hu
    have hj : j < rows.length * 8 := by rw [← hfl]; exact (List.getElem?_eq_some_iff.1 hu).1
    have hi : j / 8 < rows.length := by omega
    have hk := h0 _ (List.getElem_mem hi)
    have hjm : j % 8 < rows[j / 8].length := by omega
    have e1 := flat_at (j := j % 8) h0 (List.getElem?_eq_getElem hi) (List.getElem?_eq_getElem hjm)
    rw [show j / 8 * 8 + j % 8 = j by omega] at e1
    have e2 := hr (j / 8) _ (List.getElem?_eq_getElem hi) (j % 8) _ (List.getElem?_eq_getElem hjm)
    rw [show off + j / 8 * 8 + j % 8 = off + j by omega] at e2
    rw [e1] at hu
    rw [e2, hu]
  have HR := (show Hid (All2 (RPrep Any w) rows ys) from h2)
  have HN := (show Hid (rows.flatten.length = rows.length * 8) from hfl)
  have HO := (show Hid (∀ u ∈ rows.flatten, u.oneCell' = true) from hone)
  obtain ⟨i0, hi, hz0, hzs, hzb⟩ := info_parts Tryz.infPrepS
  rcases h1 with ⟨ao, cap, rfl, rfl, hcap⟩ | ⟨b, off, cap, rfl, hc1, hc2, hpos, _, hb, hr⟩
  · obtain rfl : ys = [] := List.eq_nil_of_length_eq_zero (by simpa using hlen.symm)
    cases ao with
    | none =>
      have hq : ∀ (n c : Nat) (u : World), (binOp .eql 66 (.slice none 0 cap) (.slice none n c)).run Tryz.prog u = .ok (.bool true) u := fun n c u => Lib.run_eql_slice_nil u 66 107 none 0 cap n c Tryz.underlying66
      go_enter Tryz.func165, Tryz.ntmps165
      go_wp2_with fail
      go_ret
      exact ⟨_, rfl, Below.refl _ _, [], World.ownsRow_nil _ _ _ _, (fun r hr => by cases hr), trivial⟩
    | some a =>
      have hq : ∀ (n c : Nat) (u : World), (binOp .eql 66 (.slice (some a) 0 cap) (.slice none n c)).run Tryz.prog u = .ok (.bool false) u := fun n c u => Lib.run_eql_slice_nil u 66 107 (some a) 0 cap n c Tryz.underlying66
      go_enter Tryz.func165, Tryz.ntmps165
      go_wp2_with (at_builtin; refine wpList_append_own _ rfl _ _ 66 rfl w.heap.size 107 i0 _ 8 112 Tryz.underlying66 hi hz0 hzs hzb rfl (by decide) _ _ _ rfl (World.ownsRow_made w #[] 0 (Nat.le_refl _) (Nat.zero_le _) (by simp)) a 0 cap [] rfl rfl (fun j u hu => by simp at hu) (fun u hu => by cases hu) (by simp) (by simp) (by simp) ?_; intro v' w1 hown hgrow hnil)
      go_ret
      exact ⟨_, rfl, ((Below.refl _ w).alloc (Nat.le_refl _) _).grown hgrow (by simp) (fr_at _ _ _ _ (Nat.le_refl _)), [], by simpa using hown, (fun r hr => by cases hr), trivial⟩
  · have HC := (show Hid (∀ j u, rows.flatten[j]? = some u → w.cell? ⟨b, off + j, none⟩ = some u) from hcell b off hr)
    have hq : ∀ (n c : Nat) (u : World), (binOp .eql 66 (.slice (some ⟨b, off, none⟩) rows.length cap) (.slice none n c)).run Tryz.prog u = .ok (.bool false) u := fun n c u => Lib.run_eql_slice_nil u 66 107 (some ⟨b, off, none⟩) rows.length cap n c Tryz.underlying66
    have hb1 : rows.length * 112 ≤ 140737488355328 := by rw [hlen]; omega
    have hm1 : rows.length ≤ maxLen := by unfold maxLen at *; omega
    have HQ := (show Hid (∀ j u, rows.flatten[j]? = some u → (w.alloc (.cells #[] 107)).cell? ((⟨b, off, none⟩ : Addr).add j) = some u) from fun j u hj => by
      rw [Addr.add_mid]
      exact ((below_alloc w _).cell (p := ⟨b, off + j, none⟩) hb).trans (HC.out j u hj))
    have HL := (show Hid (rows.length = ys.length) from hlen)
    clear hr hcell hfl hone h2 hlen
    go_enter Tryz.func165, Tryz.ntmps165
    go_wp2_with (at_builtin; refine wpList_append_own _ rfl _ _ 66 rfl w.heap.size 107 i0 _ 8 112 Tryz.underlying66 hi hz0 hzs hzb rfl (by decide) _ _ _ rfl (World.ownsRow_made w #[] 0 (Nat.le_refl _) (Nat.zero_le _) (by simp)) ⟨b, off, none⟩ rows.length cap rows.flatten rfl HN.out HQ.out HO.out (by rw [Nat.zero_add]; exact hm1) (by rw [Nat.zero_add]; exact hb1) (by simp) ?_; intro v' w1 hown hgrow hnil)
    go_ret
    exact ⟨_, rfl, ((Below.refl _ w).alloc (Nat.le_refl _) _).grown hgrow (by simp) (fr_at _ _ _ _ (Nat.le_refl _)), rows, by rw [← HL.out]; simpa using hown, h0, HR.out⟩
set_option maxRecDepth 10000 in
set_option maxHeartbeats 2000000 in
/-- clone.list of sessions. -/
theorem clistPrep_any (w : World) (v : Value) (ys : List PPrep) (h : RL RPrep 8 Any w v ys) (hz : szL 112 szP ys) :
    Calls Tryz.prog 158 #[v, .func (.func 159) #[] #[]] w fun e w' => ∃ v', e = .returned v' ∧ RL RPrep 8 (From w.heap.size) w' v' ys ∧ Below w.heap.size w w' := by
  go_enter Tryz.func158, Tryz.ntmps158
  go_wp2_with fail
  refine (sclonePrep_any w v ys h hz).mono ?_
  rintro e w1 ⟨v1, rfl, hb1, rows, hown, h0, hall⟩
  have hlen := hall.len
  rcases hown.2 with ⟨rfl, hy0⟩ | ⟨g, cap, cur, rfl, hg0, hrow, hc1, hc2, hc3, hc4⟩
  · obtain rfl : ys = [] := List.eq_nil_of_length_eq_zero hy0
    go_wp2_with fail
    refine wp_loop_rounds 1 ?_; rw [rounds_succ]
    go_wp2_with fail
    go_ret
    exact ⟨_, rfl, RL.nil _ _ _ _, hb1⟩
  · have hlm : (ys.length : Int) ≤ 9223372036854775807 := by unfold maxLen at hc2; omega
    have m0 : Hid (MixR RPrep 107 8 w.heap.size g ys.length cap 0 w w1 rows ys) := ⟨hb1, cur.toList, [], by unfold Row; simpa using hrow, by simpa using hc3, rfl, (fun r hr => by cases hr), by simpa using hc4, trivial⟩
    have HL := (show Hid (rows.length = ys.length) from hlen)
    have H0 := (show Hid (∀ r ∈ rows, r.length = 8) from h0)
    have HA := (show Hid (All2 (RPrep Any w) rows ys) from hall)
    have HZ := (show Hid (∀ y ∈ ys, szP y) from hz.2)
    clear hown hrow hc3 hc4 hlen h0 hall hb1 h hz
    obtain ⟨n, hn⟩ : ∃ n, n = ys.length := ⟨_, rfl⟩
    rw [← hn] at hlm m0 hc1 HL ⊢
    have HN := (show Hid (ys.length = n) from hn.symm)
    clear hn
    go_wp2_with fail
    go_loopw [12] (fun i wr => ∃ q : Nat, q ≤ n ∧ i = .int .i64 q ∧ Hid (MixR RPrep 107 8 w.heap.size g n cap q w wr rows ys)) (fun i _ => n - (intOf i).toNat)
    case atStart => exact ⟨0, by omega, rfl, m0⟩
    case round =>
      clear m0
      obtain ⟨q, hq, rfl, hM⟩ := hrel
      by_cases hql : q < n
      · obtain ⟨x, hx⟩ : ∃ x, ys[q]? = some x := ⟨_, List.getElem?_eq_getElem (by have := HN.out; omega)⟩
        obtain ⟨r, hr⟩ : ∃ r, rows[q]? = some r := ⟨_, List.getElem?_eq_getElem (by have := HL.out; omega)⟩
        have hxr := HA.out.get hr hx
        have hrng := hM.out.row H0.out hr hql
        have hxr0 := hxr; obtain ⟨o1, o2, o3, rfl, t1, t2, t3⟩ := hxr
        have hB := hM.out.bel
        have hzx := HZ.out x (List.mem_of_getElem? hx)
        have hrow0 := Row.new wr 107 [.int .i64 0, .int .i64 0, .int .i64 0, .int .i64 0, .int .i64 0, .slice none 0 0, .slice none 0 0, .slice none 0 0]
        have HX := (show Hid (ys[q]? = some x) from hx)
        have hone := one_RPrep hxr0
        clear hx hr
        obtain ⟨cur0, A0, kr1, kr2, _⟩ := hM.out.ex
        have hgl := kr1.lt
        have hfit : q * 8 + 8 ≤ cur0.length := by omega
        have K1 := (show Hid (Row wr g 107 cur0) from kr1)
        clear kr1 kr2
        go_wp2_with (first
          | (refine wpList_load_mid rfl _ _ rfl g (q * 8) rfl [.int .i64 x.1, .int .i64 x.2.1.1, .int .i64 x.2.1.2, .int .i64 x.2.2.1.1, .int .i64 x.2.2.1.2.1, o1, o2, o3] _ hrng Tryz.underlying107 rfl (by kernel_rfl) ?_)
          | (refine wl_store rfl _ _ _ rfl wr.heap.size [.int .i64 x.1, .int .i64 x.2.1.1, .int .i64 x.2.1.2, .int .i64 x.2.2.1.1, .int .i64 x.2.2.1.2.1, o1, o2, o3] rfl rfl _ _ hrow0 rfl (by kernel_rfl) hone ?_; intro w5 hr5 hg5; have hb5 : Below wr.heap.size wr w5 := (below_alloc wr _).trans (grown_below hg5 (by simp) (fun k hk => by cases hk; exact Nat.le_refl _)); have hx5 : RPrep Any w5 [.int .i64 x.1, .int .i64 x.2.1.1, .int .i64 x.2.1.2, .int .i64 x.2.2.1.1, .int .i64 x.2.2.1.2.1, o1, o2, o3] x := mov_prep _ _ _ _ _ _ hxr0 (below_and hB (Nat.le_refl _) hb5).size (Mv.below (below_and hB (Nat.le_refl _) hb5)))
          | (refine wl_load rfl _ _ rfl wr.heap.size rfl _ _ hr5.out _ Tryz.underlying107 rfl (by kernel_rfl) ?_)
          | (go_at_call 159; refine (clonePrepS_any w5 [.int .i64 x.1, .int .i64 x.2.1.1, .int .i64 x.2.1.2, .int .i64 x.2.2.1.1, .int .i64 x.2.2.1.2.1, o1, o2, o3] x hx5 hzx).mono ?_; rintro e w6 ⟨r6, rfl, o6, hb6⟩; have o6' := mov_prep _ (From wr.heap.size) _ _ _ _ o6 (Nat.le_refl _) (Mv.weak hb5.size); have on6 := one_RPrep o6'; obtain ⟨p1, p2, p3, rfl, _⟩ := o6; have hb6' := below_and hb5 (Nat.le_refl _) hb6; have kk6 := K1.out.below hb6')
          | (refine wl_put rfl _ _ _ rfl g (q * 8) [.int .i64 x.1, .int .i64 x.2.1.1, .int .i64 x.2.1.2, .int .i64 x.2.2.1.1, .int .i64 x.2.2.1.2.1, p1, p2, p3] rfl rfl _ _ kk6 hfit (by kernel_rfl) on6 ?_; intro w7 hr7 hg7))
        go_roundw
        case rel => exact ⟨q + 1, by omega, by go_num, hM.out.step mov_prep H0.out HL.out hc1 HX.out hql hb6' hg0 rfl o6' hB.size hg7 kk6 hr7.out⟩
        case measure => simp [intOf]; omega
      · go_wp2_with fail
        go_ret
        obtain rfl : q = n := by omega
        exact ⟨_, rfl, (hM.out.done mov_prep HL.out HN.out hc1 hc2 hg0).rl mov_prep, hM.out.bel⟩
set_option maxRecDepth 10000 in
set_option maxHeartbeats 4000000 in
theorem cloneReportS_any (w : World) (r : List Value) (x : PRep) (h : RRep Any w r x) (hz : szR x) :
    Calls Tryz.prog 147 #[.agg r.toArray] w fun e w' => ∃ r', e = .returned (.agg r'.toArray) ∧ RRep (From w.heap.size) w' r' x ∧ Below w.heap.size w w' := by
  obtain ⟨o1, o2, o3, o4, rfl, t1, t2, t3, t4⟩ := h
  obtain ⟨w2, hw2⟩ : ∃ w2, w2 = (w.alloc (.cells #[.int .i64 x.1.1, .int .i64 x.1.2, .int .i64 x.2.1, .int .i64 x.2.2.1, o1, o2, o3, o4] 68)).alloc (.cells #[.int .i64 0, .int .i64 0, .int .i64 0, .int .i64 0, .slice none 0 0, .slice none 0 0, .slice none 0 0, .slice none 0 0] 68) := ⟨_, rfl⟩
  have ra : Row w2 w.heap.size 68 [.int .i64 x.1.1, .int .i64 x.1.2, .int .i64 x.2.1, .int .i64 x.2.2.1, o1, o2, o3, o4] := by rw [hw2]; exact rowA (Row.new w 68 _) _
  have rr : Row w2 (w.heap.size + 1) 68 [.int .i64 0, .int .i64 0, .int .i64 0, .int .i64 0, .slice none 0 0, .slice none 0 0, .slice none 0 0, .slice none 0 0] := by
    have h1 : (w.alloc (.cells #[.int .i64 x.1.1, .int .i64 x.1.2, .int .i64 x.2.1, .int .i64 x.2.2.1, o1, o2, o3, o4] 68)).heap.size = w.heap.size + 1 := by simp
    rw [hw2, ← h1]
    exact Row.new (w.alloc (.cells #[.int .i64 x.1.1, .int .i64 x.1.2, .int .i64 x.2.1, .int .i64 x.2.2.1, o1, o2, o3, o4] 68)) 68 [.int .i64 0, .int .i64 0, .int .i64 0, .int .i64 0, .slice none 0 0, .slice none 0 0, .slice none 0 0, .slice none 0 0]
  have B : Below w.heap.size w w2 := by rw [hw2]; exact ((Below.refl _ w).alloc (Nat.le_refl _) _).alloc (by simp) _
  have hC : w.heap.size + 2 ≤ w2.heap.size := by rw [hw2]; simp
  go_enter Tryz.func147, Tryz.ntmps147
  go_upto_region 1 with fail
  rw [← hw2]
  clear hw2
  have hI := (t1.mv (Mv.below B))
  have cI := ra.cell (j := 4) rfl
  have hG := clone_any w2 _ _ hI.1 (Nat.le_trans (hz.1) (by decide))
  go_upto_region 2 with (first
    | (go_at_call 64; refine hG.mono ?_; rintro e wa0 ⟨v0, rfl, f0, hb0⟩; have rai := ra.below hb0)
    | (refine wl_set rfl _ _ _ rfl w.heap.size 4 _ rfl rfl _ _ rai (show 4 < 8 by decide) (by kernel_rfl) f0.one ?_; intro wb0 rbi hg0))
  have ra : Row wb0 w.heap.size 68 [.int .i64 x.1.1, .int .i64 x.1.2, .int .i64 x.2.1, .int .i64 x.2.2.1, v0, o2, o3, o4] := rbi.out
  have rr := (rr.below hb0).grown hg0 (fun h => by injection h; omega)
  have f0 := ((f0.mv (Mv.weak (L := w.heap.size + 2) hC)).mv (Mv.from hg0 (by omega) (Nat.le_refl _)))
  have B : Below w.heap.size w wb0 := (below_and B (Nat.le_refl _) hb0).trans (grown_below hg0 (below_and B (Nat.le_refl _) hb0).size (fun k hk => by cases hk; exact Nat.le_refl _))
  have hC := Nat.le_trans hC (Nat.le_trans hb0.size hg0.size)
  clear hG hI rai rbi hb0 hg0 cI
  have hI := (t2.mv mov_vote B.size (Mv.below B))
  have cI := ra.cell (j := 5) rfl
  have hG := cvotesS_any wb0 _ _ hI (hz.2.1)
  go_upto_region 3 with (first
    | (go_at_call 143; refine hG.mono ?_; rintro e wa1 ⟨v1, rfl, f1, hb1⟩; have rai := ra.below hb1)
    | (refine wl_set rfl _ _ _ rfl w.heap.size 5 _ rfl rfl _ _ rai (show 5 < 8 by decide) (by kernel_rfl) f1.one ?_; intro wb1 rbi hg1))
  have ra : Row wb1 w.heap.size 68 [.int .i64 x.1.1, .int .i64 x.1.2, .int .i64 x.2.1, .int .i64 x.2.2.1, v0, v1, o3, o4] := rbi.out
  have rr := (rr.below hb1).grown hg1 (fun h => by injection h; omega)
  have f0 := ((f0.mv (Mv.belowF hb1 (Nat.le_refl _))).mv (Mv.from hg1 (by omega) (Nat.le_refl _)))
  have f1 := ((f1.mv mov_vote (Nat.le_refl _) (Mv.weak (L := w.heap.size + 2) hC)).mv mov_vote hg1.size (Mv.from hg1 (by omega) (Nat.le_refl _)))
  have B : Below w.heap.size w wb1 := (below_and B (Nat.le_refl _) hb1).trans (grown_below hg1 (below_and B (Nat.le_refl _) hb1).size (fun k hk => by cases hk; exact Nat.le_refl _))
  have hC := Nat.le_trans hC (Nat.le_trans hb1.size hg1.size)
  clear hG hI rai rbi hb1 hg1 cI
  have hI := (t3.mv mov_prep B.size (Mv.below B))
  have cI := ra.cell (j := 6) rfl
  have hG := clistPrep_any wb1 _ _ hI (hz.2.2.1)
  go_upto_region 4 with (first
    | (go_at_call 158; refine hG.mono ?_; rintro e wa2 ⟨v2, rfl, f2, hb2⟩; have rai := ra.below hb2)
    | (refine wl_set rfl _ _ _ rfl w.heap.size 6 _ rfl rfl _ _ rai (show 6 < 8 by decide) (by kernel_rfl) f2.one ?_; intro wb2 rbi hg2))
  have ra : Row wb2 w.heap.size 68 [.int .i64 x.1.1, .int .i64 x.1.2, .int .i64 x.2.1, .int .i64 x.2.2.1, v0, v1, v2, o4] := rbi.out
  have rr := (rr.below hb2).grown hg2 (fun h => by injection h; omega)
  have f0 := ((f0.mv (Mv.belowF hb2 (Nat.le_refl _))).mv (Mv.from hg2 (by omega) (Nat.le_refl _)))
  have f1 := ((f1.mv mov_vote hb2.size (Mv.belowF hb2 (Nat.le_refl _))).mv mov_vote hg2.size (Mv.from hg2 (by omega) (Nat.le_refl _)))
  have f2 := ((f2.mv mov_prep (Nat.le_refl _) (Mv.weak (L := w.heap.size + 2) hC)).mv mov_prep hg2.size (Mv.from hg2 (by omega) (Nat.le_refl _)))
  have B : Below w.heap.size w wb2 := (below_and B (Nat.le_refl _) hb2).trans (grown_below hg2 (below_and B (Nat.le_refl _) hb2).size (fun k hk => by cases hk; exact Nat.le_refl _))
  have hC := Nat.le_trans hC (Nat.le_trans hb2.size hg2.size)
  clear hG hI rai rbi hb2 hg2 cI
  have hI := (t4.mv (Mv.below B))
  have cI := ra.cell (j := 7) rfl
  have hG := clone_any wb2 _ _ hI.1 (Nat.le_trans (hz.2.2.2) (by decide))
  go_upto_region 5 with (first
    | (go_at_call 64; refine hG.mono ?_; rintro e wa3 ⟨v3, rfl, f3, hb3⟩; have rai := ra.below hb3)
    | (refine wl_set rfl _ _ _ rfl w.heap.size 7 _ rfl rfl _ _ rai (show 7 < 8 by decide) (by kernel_rfl) f3.one ?_; intro wb3 rbi hg3))
  have ra : Row wb3 w.heap.size 68 [.int .i64 x.1.1, .int .i64 x.1.2, .int .i64 x.2.1, .int .i64 x.2.2.1, v0, v1, v2, v3] := rbi.out
  have rr := (rr.below hb3).grown hg3 (fun h => by injection h; omega)
  have f0 := ((f0.mv (Mv.belowF hb3 (Nat.le_refl _))).mv (Mv.from hg3 (by omega) (Nat.le_refl _)))
  have f1 := ((f1.mv mov_vote hb3.size (Mv.belowF hb3 (Nat.le_refl _))).mv mov_vote hg3.size (Mv.from hg3 (by omega) (Nat.le_refl _)))
  have f2 := ((f2.mv mov_prep hb3.size (Mv.belowF hb3 (Nat.le_refl _))).mv mov_prep hg3.size (Mv.from hg3 (by omega) (Nat.le_refl _)))
  have f3 := ((f3.mv (Mv.weak (L := w.heap.size + 2) hC)).mv (Mv.from hg3 (by omega) (Nat.le_refl _)))
  have B : Below w.heap.size w wb3 := (below_and B (Nat.le_refl _) hb3).trans (grown_below hg3 (below_and B (Nat.le_refl _) hb3).size (fun k hk => by cases hk; exact Nat.le_refl _))
  have hC := Nat.le_trans hC (Nat.le_trans hb3.size hg3.size)
  clear hG hI rai rbi hb3 hg3 cI
  have hone : ∀ v ∈ [.int .i64 x.1.1, .int .i64 x.1.2, .int .i64 x.2.1, .int .i64 x.2.2.1, v0, v1, v2, v3], v.oneCell' = true := by
    intro v hv
    have k_f0 := f0.one; have k_f1 := f1.one; have k_f2 := f2.one; have k_f3 := f3.one
    simp only [List.mem_cons, List.not_mem_nil, or_false] at hv
    rcases hv with rfl | rfl | rfl | rfl | rfl | rfl | rfl | rfl <;> first | rfl | assumption
  go_wp2_with (first
    | (refine wl_load rfl _ _ rfl w.heap.size rfl _ _ ra _ Tryz.underlying68 rfl (by kernel_rfl) ?_)
    | (refine wl_store rfl _ _ _ rfl (w.heap.size + 1) [.int .i64 x.1.1, .int .i64 x.1.2, .int .i64 x.2.1, .int .i64 x.2.2.1, v0, v1, v2, v3] rfl rfl _ _ rr rfl (by kernel_rfl) hone ?_; intro w9 rr9 hg9))
  have B9 : Below w.heap.size w w9 := B.trans (grown_below hg9 B.size (fun k hk => by cases hk; omega))
  have f0 := ((f0.mv (Mv.from hg9 (by omega) (Nat.le_refl _))).mv (Mv.weak (L := w.heap.size) (by omega)))
  have f1 := ((f1.mv mov_vote hg9.size (Mv.from hg9 (by omega) (Nat.le_refl _))).mv mov_vote (Nat.le_refl _) (Mv.weak (L := w.heap.size) (by omega)))
  have f2 := ((f2.mv mov_prep hg9.size (Mv.from hg9 (by omega) (Nat.le_refl _))).mv mov_prep (Nat.le_refl _) (Mv.weak (L := w.heap.size) (by omega)))
  have f3 := ((f3.mv (Mv.from hg9 (by omega) (Nat.le_refl _))).mv (Mv.weak (L := w.heap.size) (by omega)))
  refine bodyPost_ret (v := .agg ([.int .i64 x.1.1, .int .i64 x.1.2, .int .i64 x.2.1, .int .i64 x.2.2.1, v0, v1, v2, v3] : List Value).toArray) (results_cell_row rfl _ _ (w.heap.size + 1) _ _ (0, 0) _ (by rfl) rr9.out Tryz.underlying68 rfl (by kernel_rfl)) rfl ?_
  exact ⟨_, rfl, ⟨_, _, _, _, rfl, f0, f1, f2, f3⟩, B9⟩
theorem Tryz.infReportS : (Tryz.prog.info? 68).map (fun i => (i.zero, i.size, i.bytes)) = some (some (.agg #[.int .i64 0, .int .i64 0, .int .i64 0, .int .i64 0, .slice none 0 0, .slice none 0 0, .slice none 0 0, .slice none 0 0]), 8, 128) := by kernel_rfl
set_option maxRecDepth 10000 in
/-- slices.Clone of sessions. -/
theorem scloneReport_any (w : World) (v : Value) (ys : List PRep) (h : RL RRep 8 Any w v ys) (hz : szL 128 szR ys) :
    Calls Tryz.prog 157 #[v] w fun e w' => ∃ v', e = .returned v' ∧ Below w.heap.size w w' ∧ ∃ rows, w'.ownsRow w.heap.size 68 8 v' ys.length rows.flatten ∧ (∀ r ∈ rows, r.length = 8) ∧ All2 (RRep Any w) rows ys := by
  obtain ⟨rows, ⟨h0, h1⟩, h2⟩ := h
  have hlen := h2.len
  have hz1 := hz.1
  have hfl := flat_len h0
  have hone : ∀ u ∈ rows.flatten, u.oneCell' = true := by
    intro u hu
    obtain ⟨r, hr, hur⟩ := List.mem_flatten.1 hu
    obtain ⟨i, hi, rfl⟩ := List.getElem_of_mem hr
    have := h2.get (List.getElem?_eq_getElem hi) (List.getElem?_eq_getElem (by omega))
    exact one_RRep this u hur
  have hcell : ∀ b off, (∀ (i : Nat) (r : List Value), rows[i]? = some r → w.rangeAt b (off + i * 8) r) → ∀ j u, rows.flatten[j]? = some u → w.cell? ⟨b, off + j, none⟩ = some u := by
    intro b off hr j u hu
    have hj : j < rows.length * 8 := by rw [← hfl]; exact (List.getElem?_eq_some_iff.1 hu).1
    have hi : j / 8 < rows.length := by omega
    have hk := h0 _ (List.getElem_mem hi)
    have hjm : j % 8 < rows[j / 8].length := by omega
    have e1 := flat_at (j := j % 8) h0 (List.getElem?_eq_getElem hi) (List.getElem?_eq_getElem hjm)
    rw [show j / 8 * 8 + j % 8 = j by omega] at e1
    have e2 := hr (j / 8) _ (List.getElem?_eq_getElem hi) (j % 8) _ (List.getElem?_eq_getElem hjm)
    rw [show off + j / 8 * 8 + j % 8 = off + j by omega] at e2
    rw [e1] at hu
    rw [e2, hu]
  have HR := (show Hid (All2 (RRep Any w) rows ys) from h2)
  have HN := (show Hid (rows.flatten.length = rows.length * 8) from hfl)
  have HO := (show Hid (∀ u ∈ rows.flatten, u.oneCell' = true) from hone)
  obtain ⟨i0, hi, hz0, hzs, hzb⟩ := info_parts Tryz.infReportS
  rcases h1 with ⟨ao, cap, rfl, rfl, hcap⟩ | ⟨b, off, cap, rfl, hc1, hc2, hpos, _, hb, hr⟩
  · obtain rfl : ys = [] := List.eq_nil_of_length_eq_zero (by simpa using hlen.symm)
    cases ao with
    | none =>
      have hq : ∀ (n c : Nat) (u : World), (binOp .eql 38 (.slice none 0 cap) (.slice none n c)).run Tryz.prog u = .ok (.bool true) u := fun n c u => Lib.run_eql_slice_nil u 38 68 none 0 cap n c Tryz.underlying38
      go_enter Tryz.func157, Tryz.ntmps157
      go_wp2_with fail
      go_ret
      exact ⟨_, rfl, Below.refl _ _, [], World.ownsRow_nil _ _ _ _, (fun r hr => by cases hr), trivial⟩
    | some a =>
      have hq : ∀ (n c : Nat) (u : World), (binOp .eql 38 (.slice (some a) 0 cap) (.slice none n c)).run Tryz.prog u = .ok (.bool false) u := fun n c u => Lib.run_eql_slice_nil u 38 68 (some a) 0 cap n c Tryz.underlying38
      go_enter Tryz.func157, Tryz.ntmps157
      go_wp2_with (at_builtin; refine wpList_append_own _ rfl _ _ 38 rfl w.heap.size 68 i0 _ 8 128 Tryz.underlying38 hi hz0 hzs hzb rfl (by decide) _ _ _ rfl (World.ownsRow_made w #[] 0 (Nat.le_refl _) (Nat.zero_le _) (by simp)) a 0 cap [] rfl rfl (fun j u hu => by simp at hu) (fun u hu => by cases hu) (by simp) (by simp) (by simp) ?_; intro v' w1 hown hgrow hnil)
      go_ret
      exact ⟨_, rfl, ((Below.refl _ w).alloc (Nat.le_refl _) _).grown hgrow (by simp) (fr_at _ _ _ _ (Nat.le_refl _)), [], by simpa using hown, (fun r hr => by cases hr), trivial⟩
  · have HC := (show Hid (∀ j u, rows.flatten[j]? = some u → w.cell? ⟨b, off + j, none⟩ = some u) from hcell b off hr)
    have hq : ∀ (n c : Nat) (u : World), (binOp .eql 38 (.slice (some ⟨b, off, none⟩) rows.length cap) (.slice none n c)).run Tryz.prog u = .ok (.bool false) u := fun n c u => Lib.run_eql_slice_nil u 38 68 (some ⟨b, off, none⟩) rows.length cap n c Tryz.underlying38
    have hb1 : rows.length * 128 ≤ 140737488355328 := by rw [hlen]; omega
    have hm1 : rows.length ≤ maxLen := by unfold maxLen at *; omega
    have HQ := (show Hid (∀ j u, rows.flatten[j]? = some u → (w.alloc (.cells #[] 68)).cell? ((⟨b, off, none⟩ : Addr).add j) = some u) from fun j u hj => by
      rw [Addr.add_mid]
      exact ((below_alloc w _).cell (p := ⟨b, off + j, none⟩) hb).trans (HC.out j u hj))
    have HL := (show Hid (rows.length = ys.length) from hlen)
    clear hr hcell hfl hone h2 hlen
    go_enter Tryz.func157, Tryz.ntmps157
    go_wp2_with (at_builtin; refine wpList_append_own _ rfl _ _ 38 rfl w.heap.size 68 i0 _ 8 128 Tryz.underlying38 hi hz0 hzs hzb rfl (by decide) _ _ _ rfl (World.ownsRow_made w #[] 0 (Nat.le_refl _) (Nat.zero_le _) (by simp)) ⟨b, off, none⟩ rows.length cap rows.flatten rfl HN.out HQ.out HO.out (by rw [Nat.zero_add]; exact hm1) (by rw [Nat.zero_add]; exact hb1) (by simp) ?_; intro v' w1 hown hgrow hnil)
    go_ret
    exact ⟨_, rfl, ((Below.refl _ w).alloc (Nat.le_refl _) _).grown hgrow (by simp) (fr_at _ _ _ _ (Nat.le_refl _)), rows, by rw [← HL.out]; simpa using hown, h0, HR.out⟩
set_option maxRecDepth 10000 in
set_option maxHeartbeats 2000000 in
/-- clone.list of sessions. -/
theorem clistReport_any (w : World) (v : Value) (ys : List PRep) (h : RL RRep 8 Any w v ys) (hz : szL 128 szR ys) :
    Calls Tryz.prog 146 #[v, .func (.func 147) #[] #[]] w fun e w' => ∃ v', e = .returned v' ∧ RL RRep 8 (From w.heap.size) w' v' ys ∧ Below w.heap.size w w' := by
  go_enter Tryz.func146, Tryz.ntmps146
  go_wp2_with fail
  refine (scloneReport_any w v ys h hz).mono ?_
  rintro e w1 ⟨v1, rfl, hb1, rows, hown, h0, hall⟩
  have hlen := hall.len
  rcases hown.2 with ⟨rfl, hy0⟩ | ⟨g, cap, cur, rfl, hg0, hrow, hc1, hc2, hc3, hc4⟩
  · obtain rfl : ys = [] := List.eq_nil_of_length_eq_zero hy0
    go_wp2_with fail
    refine wp_loop_rounds 1 ?_; rw [rounds_succ]
    go_wp2_with fail
    go_ret
    exact ⟨_, rfl, RL.nil _ _ _ _, hb1⟩
  · have hlm : (ys.length : Int) ≤ 9223372036854775807 := by unfold maxLen at hc2; omega
    have m0 : Hid (MixR RRep 68 8 w.heap.size g ys.length cap 0 w w1 rows ys) := ⟨hb1, cur.toList, [], by unfold Row; simpa using hrow, by simpa using hc3, rfl, (fun r hr => by cases hr), by simpa using hc4, trivial⟩
    have HL := (show Hid (rows.length = ys.length) from hlen)
    have H0 := (show Hid (∀ r ∈ rows, r.length = 8) from h0)
    have HA := (show Hid (All2 (RRep Any w) rows ys) from hall)
    have HZ := (show Hid (∀ y ∈ ys, szR y) from hz.2)
    clear hown hrow hc3 hc4 hlen h0 hall hb1 h hz
    obtain ⟨n, hn⟩ : ∃ n, n = ys.length := ⟨_, rfl⟩
    rw [← hn] at hlm m0 hc1 HL ⊢
    have HN := (show Hid (ys.length = n) from hn.symm)
    clear hn
    go_wp2_with fail
    go_loopw [12] (fun i wr => ∃ q : Nat, q ≤ n ∧ i = .int .i64 q ∧ Hid (MixR RRep 68 8 w.heap.size g n cap q w wr rows ys)) (fun i _ => n - (intOf i).toNat)
    case atStart => exact ⟨0, by omega, rfl, m0⟩
    case round =>
      clear m0
      obtain ⟨q, hq, rfl, hM⟩ := hrel
      by_cases hql : q < n
      · obtain ⟨x, hx⟩ : ∃ x, ys[q]? = some x := ⟨_, List.getElem?_eq_getElem (by have := HN.out; omega)⟩
        obtain ⟨r, hr⟩ : ∃ r, rows[q]? = some r := ⟨_, List.getElem?_eq_getElem (by have := HL.out; omega)⟩
        have hxr := HA.out.get hr hx
        have hrng := hM.out.row H0.out hr hql
        have hxr0 := hxr; obtain ⟨o1, o2, o3, o4, rfl, t1, t2, t3, t4⟩ := hxr
        have hB := hM.out.bel
        have hzx := HZ.out x (List.mem_of_getElem? hx)
        have hrow0 := Row.new wr 68 [.int .i64 0, .int .i64 0, .int .i64 0, .int .i64 0, .slice none 0 0, .slice none 0 0, .slice none 0 0, .slice none 0 0]
        have HX := (show Hid (ys[q]? = some x) from hx)
        have hone := one_RRep hxr0
        clear hx hr
        obtain ⟨cur0, A0, kr1, kr2, _⟩ := hM.out.ex
        have hgl := kr1.lt
        have hfit : q * 8 + 8 ≤ cur0.length := by omega
        have K1 := (show Hid (Row wr g 68 cur0) from kr1)
        clear kr1 kr2
        go_wp2_with (first
          | (refine wpList_load_mid rfl _ _ rfl g (q * 8) rfl [.int .i64 x.1.1, .int .i64 x.1.2, .int .i64 x.2.1, .int .i64 x.2.2.1, o1, o2, o3, o4] _ hrng Tryz.underlying68 rfl (by kernel_rfl) ?_)
          | (refine wl_store rfl _ _ _ rfl wr.heap.size [.int .i64 x.1.1, .int .i64 x.1.2, .int .i64 x.2.1, .int .i64 x.2.2.1, o1, o2, o3, o4] rfl rfl _ _ hrow0 rfl (by kernel_rfl) hone ?_; intro w5 hr5 hg5; have hb5 : Below wr.heap.size wr w5 := (below_alloc wr _).trans (grown_below hg5 (by simp) (fun k hk => by cases hk; exact Nat.le_refl _)); have hx5 : RRep Any w5 [.int .i64 x.1.1, .int .i64 x.1.2, .int .i64 x.2.1, .int .i64 x.2.2.1, o1, o2, o3, o4] x := mov_rep _ _ _ _ _ _ hxr0 (below_and hB (Nat.le_refl _) hb5).size (Mv.below (below_and hB (Nat.le_refl _) hb5)))
          | (refine wl_load rfl _ _ rfl wr.heap.size rfl _ _ hr5.out _ Tryz.underlying68 rfl (by kernel_rfl) ?_)
          | (go_at_call 147; refine (cloneReportS_any w5 [.int .i64 x.1.1, .int .i64 x.1.2, .int .i64 x.2.1, .int .i64 x.2.2.1, o1, o2, o3, o4] x hx5 hzx).mono ?_; rintro e w6 ⟨r6, rfl, o6, hb6⟩; have o6' := mov_rep _ (From wr.heap.size) _ _ _ _ o6 (Nat.le_refl _) (Mv.weak hb5.size); have on6 := one_RRep o6'; obtain ⟨p1, p2, p3, p4, rfl, _⟩ := o6; have hb6' := below_and hb5 (Nat.le_refl _) hb6; have kk6 := K1.out.below hb6')
          | (refine wl_put rfl _ _ _ rfl g (q * 8) [.int .i64 x.1.1, .int .i64 x.1.2, .int .i64 x.2.1, .int .i64 x.2.2.1, p1, p2, p3, p4] rfl rfl _ _ kk6 hfit (by kernel_rfl) on6 ?_; intro w7 hr7 hg7))
        go_roundw
        case rel => exact ⟨q + 1, by omega, by go_num, hM.out.step mov_rep H0.out HL.out hc1 HX.out hql hb6' hg0 rfl o6' hB.size hg7 kk6 hr7.out⟩
        case measure => simp [intOf]; omega
      · go_wp2_with fail
        go_ret
        obtain rfl : q = n := by omega
        exact ⟨_, rfl, (hM.out.done mov_rep HL.out HN.out hc1 hc2 hg0).rl mov_rep, hM.out.bel⟩
end Go.Proofs.YtgjepofinpmcpaaGreatDoor
