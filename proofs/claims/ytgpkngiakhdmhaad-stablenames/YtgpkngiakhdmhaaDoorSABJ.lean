/- The walks over package clone: votes, requests. Written by mk12s.py (clistVoteL_any, cvotesL_any by hand since). -/
import Derived.Test.YtgpkngiakhdmhaaDoorSABG
import Derived.Test.YtgpkngiakhdmhaaDoorSABD
import Derived.Test.YtgpkngiakhdmhaaDoorSABE
import Derived.Lib.SliceRun
set_option linter.unusedSimpArgs false
set_option linter.unusedVariables false
namespace Go.Proofs.YtgpkngiakhdmhaaDoor
open Go.RowKit Oct
set_option maxRecDepth 10000 in
set_option maxHeartbeats 4000000 in
theorem cloneVoteS_any (w : World) (r : List Value) (x : PVote) (h : RVote Any w r x) (hz : szV x) :
    Calls Tryd.prog 23 #[.agg r.toArray] w fun e w' => ∃ r', e = .returned (.agg r'.toArray) ∧ RVote (From w.heap.size) w' r' x ∧ Below w.heap.size w w' := by
  obtain ⟨o1, rfl, t1⟩ := h
  obtain ⟨w2, hw2⟩ : ∃ w2, w2 = (w.alloc (.cells #[.int .i64 x.1, o1] 28)).alloc (.cells #[.int .i64 0, .slice none 0 0] 28) := ⟨_, rfl⟩
  have ra : Row w2 w.heap.size 28 [.int .i64 x.1, o1] := by rw [hw2]; exact rowA (Row.new w 28 _) _
  have rr : Row w2 (w.heap.size + 1) 28 [.int .i64 0, .slice none 0 0] := by
    have h1 : (w.alloc (.cells #[.int .i64 x.1, o1] 28)).heap.size = w.heap.size + 1 := by simp
    rw [hw2, ← h1]
    exact Row.new (w.alloc (.cells #[.int .i64 x.1, o1] 28)) 28 [.int .i64 0, .slice none 0 0]
  have B : Below w.heap.size w w2 := by rw [hw2]; exact ((Below.refl _ w).alloc (Nat.le_refl _) _).alloc (by simp) _
  have hC : w.heap.size + 2 ≤ w2.heap.size := by rw [hw2]; simp
  go_enter Tryd.func23, Tryd.ntmps23
  go_upto_region 1 with fail
  rw [← hw2]
  clear hw2
  have hI := (t1.mv (Mv.below B))
  have cI := ra.cell (j := 1) rfl
  have hG := clone_any w2 _ _ hI.1 (Nat.le_trans (hz) (by decide))
  go_upto_region 2 with (first
    | (go_at_call 30; refine hG.mono ?_; rintro e wa0 ⟨v0, rfl, f0, hb0⟩; have rai := ra.below hb0)
    | (refine wl_set rfl _ _ _ rfl w.heap.size 1 _ rfl rfl _ _ rai (show 1 < 2 by decide) (by kernel_rfl) f0.one ?_; intro wb0 rbi hg0))
  have ra : Row wb0 w.heap.size 28 [.int .i64 x.1, v0] := rbi.out
  have rr := (rr.below hb0).grown hg0 (fun h => by injection h; omega)
  have f0 := ((f0.mv (Mv.weak (L := w.heap.size + 2) hC)).mv (Mv.from hg0 (by omega) (Nat.le_refl _)))
  have B : Below w.heap.size w wb0 := (below_and B (Nat.le_refl _) hb0).trans (grown_below hg0 (below_and B (Nat.le_refl _) hb0).size (fun k hk => by cases hk; exact Nat.le_refl _))
  have hC := Nat.le_trans hC (Nat.le_trans hb0.size hg0.size)
  clear hG hI rai rbi hb0 hg0 cI
  have hone : ∀ v ∈ [.int .i64 x.1, v0], v.oneCell' = true := by
    intro v hv
    have k_f0 := f0.one
    simp only [List.mem_cons, List.not_mem_nil, or_false] at hv
    rcases hv with rfl | rfl <;> first | rfl | assumption
  go_wp2_with (first
    | (refine wl_load rfl _ _ rfl w.heap.size rfl _ _ ra _ Tryd.underlying28 rfl (by kernel_rfl) ?_)
    | (refine wl_store rfl _ _ _ rfl (w.heap.size + 1) [.int .i64 x.1, v0] rfl rfl _ _ rr rfl (by kernel_rfl) hone ?_; intro w9 rr9 hg9))
  have B9 : Below w.heap.size w w9 := B.trans (grown_below hg9 B.size (fun k hk => by cases hk; omega))
  have f0 := ((f0.mv (Mv.from hg9 (by omega) (Nat.le_refl _))).mv (Mv.weak (L := w.heap.size) (by omega)))
  refine bodyPost_ret (v := .agg ([.int .i64 x.1, v0] : List Value).toArray) (results_cell_row rfl _ _ (w.heap.size + 1) _ _ (0, 0) _ (by rfl) rr9.out Tryd.underlying28 rfl (by kernel_rfl)) rfl ?_
  exact ⟨_, rfl, ⟨_, rfl, f0⟩, B9⟩
theorem Tryd.infVoteS : (Tryd.prog.info? 28).map (fun i => (i.zero, i.size, i.bytes)) = some (some (.agg #[.int .i64 0, .slice none 0 0]), 2, 32) := by kernel_rfl
set_option maxRecDepth 10000 in
/-- slices.Clone of sessions. -/
theorem scloneVote_any (w : World) (v : Value) (ys : List PVote) (h : RL RVote 2 Any w v ys) (hz : szL 32 szV ys) :
    Calls Tryd.prog 60 #[v] w fun e w' => ∃ v', e = .returned v' ∧ Below w.heap.size w w' ∧ ∃ rows, w'.ownsRow w.heap.size 28 2 v' ys.length rows.flatten ∧ (∀ r ∈ rows, r.length = 2) ∧ All2 (RVote Any w) rows ys := by
  obtain ⟨rows, ⟨h0, h1⟩, h2⟩ := h
  have hlen := h2.len
  have hz1 := hz.1
  have hfl := flat_len h0
  have hone : ∀ u ∈ rows.flatten, u.oneCell' = true := by
    intro u hu
    obtain ⟨r, hr, hur⟩ := List.mem_flatten.1 hu
    obtain ⟨i, hi, rfl⟩ := List.getElem_of_mem hr
    have := h2.get (List.getElem?_eq_getElem hi) (List.getElem?_eq_getElem (by omega))
    exact one_RVote this u hur
  have hcell : ∀ b off, (∀ (i : Nat) (r : List Value), rows[i]? = some r → w.rangeAt b (off + i * 2) r) → ∀ j u, rows.flatten[j]? = some u → w.cell? ⟨b, off + j, none⟩ = some u := by
    intro b off hr j u hu
    have hj : j < rows.length * 2 := by rw [← hfl]; exact (List.getElem?_eq_some_iff.1 hu).1
    have hi : j / 2 < rows.length := by omega
    have hk := h0 _ (List.getElem_mem hi)
    have hjm : j % 2 < rows[j / 2].length := by omega
    have e1 := flat_at (j := j % 2) h0 (List.getElem?_eq_getElem hi) (List.getElem?_eq_getElem hjm)
    rw [show j / 2 * 2 + j % 2 = j by omega] at e1
    have e2 := hr (j / 2) _ (List.getElem?_eq_getElem hi) (j % 2) _ (List.getElem?_eq_getElem hjm)
    rw [show off + j / 2 * 2 + j % 2 = off + j by omega] at e2
    rw [e1] at hu
    rw [e2, hu]
  have HR := (show Hid (All2 (RVote Any w) rows ys) from h2)
  have HN := (show Hid (rows.flatten.length = rows.length * 2) from hfl)
  have HO := (show Hid (∀ u ∈ rows.flatten, u.oneCell' = true) from hone)
  obtain ⟨i0, hi, hz0, hzs, hzb⟩ := info_parts Tryd.infVoteS
  rcases h1 with ⟨ao, cap, rfl, rfl, hcap⟩ | ⟨b, off, cap, rfl, hc1, hc2, hpos, _, hb, hr⟩
  · obtain rfl : ys = [] := List.eq_nil_of_length_eq_zero (by simpa using hlen.symm)
    cases ao with
    | none =>
      have hq : ∀ (n c : Nat) (u : World), (binOp .eql 32 (.slice none 0 cap) (.slice none n c)).run Tryd.prog u = .ok (.bool true) u := fun n c u => Lib.run_eql_slice_nil u 32 28 none 0 cap n c Tryd.underlying32
      go_enter Tryd.func60, Tryd.ntmps60
      go_wp2_with fail
      go_ret
      exact ⟨_, rfl, Below.refl _ _, [], World.ownsRow_nil _ _ _ _, (fun r hr => by cases hr), trivial⟩
    | some a =>
      have hq : ∀ (n c : Nat) (u : World), (binOp .eql 32 (.slice (some a) 0 cap) (.slice none n c)).run Tryd.prog u = .ok (.bool false) u := fun n c u => Lib.run_eql_slice_nil u 32 28 (some a) 0 cap n c Tryd.underlying32
      go_enter Tryd.func60, Tryd.ntmps60
      go_wp2_with (at_builtin; refine wpList_append_own _ rfl _ _ 32 rfl w.heap.size 28 i0 _ 2 32 Tryd.underlying32 hi hz0 hzs hzb rfl (by decide) _ _ _ rfl (World.ownsRow_made w #[] 0 (Nat.le_refl _) (Nat.zero_le _) (by simp)) a 0 cap [] rfl rfl (fun j u hu => by simp at hu) (fun u hu => by cases hu) (by simp) (by simp) (by simp) ?_; intro v' w1 hown hgrow hnil)
      go_ret
      exact ⟨_, rfl, ((Below.refl _ w).alloc (Nat.le_refl _) _).grown hgrow (by simp) (fr_at _ _ _ _ (Nat.le_refl _)), [], by simpa using hown, (fun r hr => by cases hr), trivial⟩
  · have HC := (show Hid (∀ j u, rows.flatten[j]? = some u → w.cell? ⟨b, off + j, none⟩ = some u) from hcell b off hr)
    have hq : ∀ (n c : Nat) (u : World), (binOp .eql 32 (.slice (some ⟨b, off, none⟩) rows.length cap) (.slice none n c)).run Tryd.prog u = .ok (.bool false) u := fun n c u => Lib.run_eql_slice_nil u 32 28 (some ⟨b, off, none⟩) rows.length cap n c Tryd.underlying32
    have hb1 : rows.length * 32 ≤ 140737488355328 := by rw [hlen]; omega
    have hm1 : rows.length ≤ maxLen := by unfold maxLen at *; omega
    have HQ := (show Hid (∀ j u, rows.flatten[j]? = some u → (w.alloc (.cells #[] 28)).cell? ((⟨b, off, none⟩ : Addr).add j) = some u) from fun j u hj => by
      rw [Addr.add_mid]
      exact ((below_alloc w _).cell (p := ⟨b, off + j, none⟩) hb).trans (HC.out j u hj))
    have HL := (show Hid (rows.length = ys.length) from hlen)
    clear hr hcell hfl hone h2 hlen
    go_enter Tryd.func60, Tryd.ntmps60
    go_wp2_with (at_builtin; refine wpList_append_own _ rfl _ _ 32 rfl w.heap.size 28 i0 _ 2 32 Tryd.underlying32 hi hz0 hzs hzb rfl (by decide) _ _ _ rfl (World.ownsRow_made w #[] 0 (Nat.le_refl _) (Nat.zero_le _) (by simp)) ⟨b, off, none⟩ rows.length cap rows.flatten rfl HN.out HQ.out HO.out (by rw [Nat.zero_add]; exact hm1) (by rw [Nat.zero_add]; exact hb1) (by simp) ?_; intro v' w1 hown hgrow hnil)
    go_ret
    exact ⟨_, rfl, ((Below.refl _ w).alloc (Nat.le_refl _) _).grown hgrow (by simp) (fr_at _ _ _ _ (Nat.le_refl _)), rows, by rw [← HL.out]; simpa using hown, h0, HR.out⟩
set_option maxRecDepth 10000 in
set_option maxHeartbeats 2000000 in
/-- clone.list of sessions. -/
theorem clistVoteL_any (w : World) (v : Value) (ys : List PVote) (h : RL RVote 2 Any w v ys) (hz : szL 32 szV ys) :
    Calls Tryd.prog 41 #[v, .func (.func 23) #[] #[]] w fun e w' => ∃ v', e = .returned v' ∧ LB RVote 28 2 w.heap.size w' v' ys ∧ Below w.heap.size w w' := by
  go_enter Tryd.func41, Tryd.ntmps41
  go_wp2_with fail
  refine (scloneVote_any w v ys h hz).mono ?_
  rintro e w1 ⟨v1, rfl, hb1, rows, hown, h0, hall⟩
  have hlen := hall.len
  rcases hown.2 with ⟨rfl, hy0⟩ | ⟨g, cap, cur, rfl, hg0, hrow, hc1, hc2, hc3, hc4⟩
  · obtain rfl : ys = [] := List.eq_nil_of_length_eq_zero hy0
    go_wp2_with fail
    refine wp_loop_rounds 1 ?_; rw [rounds_succ]
    go_wp2_with fail
    go_ret
    exact ⟨_, rfl, LB.nil _ _ _ _ _, hb1⟩
  · have hlm : (ys.length : Int) ≤ 9223372036854775807 := by unfold maxLen at hc2; omega
    have m0 : Hid (MixR RVote 28 2 w.heap.size g ys.length cap 0 w w1 rows ys) := ⟨hb1, cur.toList, [], by unfold Row; simpa using hrow, by simpa using hc3, rfl, (fun r hr => by cases hr), by simpa using hc4, trivial⟩
    have HL := (show Hid (rows.length = ys.length) from hlen)
    have H0 := (show Hid (∀ r ∈ rows, r.length = 2) from h0)
    have HA := (show Hid (All2 (RVote Any w) rows ys) from hall)
    have HZ := (show Hid (∀ y ∈ ys, szV y) from hz.2)
    clear hown hrow hc3 hc4 hlen h0 hall hb1 h hz
    obtain ⟨n, hn⟩ : ∃ n, n = ys.length := ⟨_, rfl⟩
    rw [← hn] at hlm m0 hc1 HL ⊢
    have HN := (show Hid (ys.length = n) from hn.symm)
    clear hn
    go_wp2_with fail
    go_loopw [12] (fun i wr => ∃ q : Nat, q ≤ n ∧ i = .int .i64 q ∧ Hid (MixR RVote 28 2 w.heap.size g n cap q w wr rows ys)) (fun i _ => n - (intOf i).toNat)
    case atStart => exact ⟨0, by omega, rfl, m0⟩
    case round =>
      clear m0
      obtain ⟨q, hq, rfl, hM⟩ := hrel
      by_cases hql : q < n
      · obtain ⟨x, hx⟩ : ∃ x, ys[q]? = some x := ⟨_, List.getElem?_eq_getElem (by have := HN.out; omega)⟩
        obtain ⟨r, hr⟩ : ∃ r, rows[q]? = some r := ⟨_, List.getElem?_eq_getElem (by have := HL.out; omega)⟩
        have hxr := HA.out.get hr hx
        have hrng := hM.out.row H0.out hr hql
        have hxr0 := hxr; obtain ⟨o1, rfl, t1⟩ := hxr
        have hB := hM.out.bel
        have hzx := HZ.out x (List.mem_of_getElem? hx)
        have hrow0 := Row.new wr 28 [.int .i64 0, .slice none 0 0]
        have HX := (show Hid (ys[q]? = some x) from hx)
        have hone := one_RVote hxr0
        clear hx hr
        obtain ⟨cur0, A0, kr1, kr2, _⟩ := hM.out.ex
        have hgl := kr1.lt
        have hfit : q * 2 + 2 ≤ cur0.length := by omega
        have K1 := (show Hid (Row wr g 28 cur0) from kr1)
        clear kr1 kr2
        go_wp2_with (first
          | (refine wpList_load_mid rfl _ _ rfl g (q * 2) rfl [.int .i64 x.1, o1] _ hrng Tryd.underlying28 rfl (by kernel_rfl) ?_)
          | (refine wl_store rfl _ _ _ rfl wr.heap.size [.int .i64 x.1, o1] rfl rfl _ _ hrow0 rfl (by kernel_rfl) hone ?_; intro w5 hr5 hg5; have hb5 : Below wr.heap.size wr w5 := (below_alloc wr _).trans (grown_below hg5 (by simp) (fun k hk => by cases hk; exact Nat.le_refl _)); have hx5 : RVote Any w5 [.int .i64 x.1, o1] x := mov_vote _ _ _ _ _ _ hxr0 (below_and hB (Nat.le_refl _) hb5).size (Mv.below (below_and hB (Nat.le_refl _) hb5)))
          | (refine wl_load rfl _ _ rfl wr.heap.size rfl _ _ hr5.out _ Tryd.underlying28 rfl (by kernel_rfl) ?_)
          | (go_at_call 23; refine (cloneVoteS_any w5 [.int .i64 x.1, o1] x hx5 hzx).mono ?_; rintro e w6 ⟨r6, rfl, o6, hb6⟩; have o6' := mov_vote _ (From wr.heap.size) _ _ _ _ o6 (Nat.le_refl _) (Mv.weak hb5.size); have on6 := one_RVote o6'; obtain ⟨p1, rfl, _⟩ := o6; have hb6' := below_and hb5 (Nat.le_refl _) hb6; have kk6 := K1.out.below hb6')
          | (refine wl_put rfl _ _ _ rfl g (q * 2) [.int .i64 x.1, p1] rfl rfl _ _ kk6 hfit (by kernel_rfl) on6 ?_; intro w7 hr7 hg7))
        go_roundw
        case rel => exact ⟨q + 1, by omega, by go_num, hM.out.step mov_vote H0.out HL.out hc1 HX.out hql hb6' hg0 rfl o6' hB.size hg7 kk6 hr7.out⟩
        case measure => simp [intOf]; omega
      · go_wp2_with fail
        go_ret
        obtain rfl : q = n := by omega
        exact ⟨_, rfl, hM.out.done mov_vote HL.out HN.out hc1 hc2 hg0, hM.out.bel⟩
theorem cvotesL_any (w : World) (v : Value) (ys : List PVote) (h : RL RVote 2 Any w v ys) (hz : szL 32 szV ys) :
    Calls Tryd.prog 31 #[v] w fun e w' => ∃ v', e = .returned v' ∧ LB RVote 28 2 w.heap.size w' v' ys ∧ Below w.heap.size w w' := by
  have hG := clistVoteL_any w v ys h hz
  go_enter Tryd.func31, Tryd.ntmps31
  go_wp2_with fail
  refine hG.mono ?_
  rintro e w1 ⟨v1, rfl, h1, hb1⟩
  go_wp2_with fail
  go_ret
  exact ⟨_, rfl, h1, hb1⟩
end Go.Proofs.YtgpkngiakhdmhaaDoor
