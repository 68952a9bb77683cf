/- Ledgers in memory: meet, where nothing was seen yet. Written by mk16.py. -/
import Derived.Test.YtajmgpgjkalfkaaDoorJD
import Derived.Lib.SliceRun
import Derived.Test.YtajmgpgjkalfkaaDoorJB
import Derived.Deep.CutBlock
section
set_option linter.unusedVariables false
set_option linter.unusedSimpArgs false
namespace Go.Proofs.YtajmgpgjkalfkaaDoor
open Go.RowKit Oct

set_option maxRecDepth 10000 in
set_option maxHeartbeats 4000000 in
theorem clonePrepS_any (w : World) (r : List Value) (x : PPrep) (h : RPrep Any w r x) (hz : szP x) :
    Calls Tryd.prog 75 #[.agg r.toArray] w fun e w' => ∃ r', e = .returned (.agg r'.toArray) ∧ RPrep (From w.heap.size) w' r' x ∧ Below w.heap.size w w' := by
  obtain ⟨o1, o2, o3, rfl, t1, t2, t3⟩ := h
  obtain ⟨w2, hw2⟩ : ∃ w2, w2 = (w.alloc (.cells #[.int .i64 x.1, .int .i64 x.2.1.1, .int .i64 x.2.1.2, .int .i64 x.2.2.1.1, .int .i64 x.2.2.1.2.1, o1, o2, o3] 97)).alloc (.cells #[.int .i64 0, .int .i64 0, .int .i64 0, .int .i64 0, .int .i64 0, .slice none 0 0, .slice none 0 0, .slice none 0 0] 97) := ⟨_, rfl⟩
  have ra : Row w2 w.heap.size 97 [.int .i64 x.1, .int .i64 x.2.1.1, .int .i64 x.2.1.2, .int .i64 x.2.2.1.1, .int .i64 x.2.2.1.2.1, o1, o2, o3] := by rw [hw2]; exact rowA (Row.new w 97 _) _
  have rr : Row w2 (w.heap.size + 1) 97 [.int .i64 0, .int .i64 0, .int .i64 0, .int .i64 0, .int .i64 0, .slice none 0 0, .slice none 0 0, .slice none 0 0] := by
    have h1 : (w.alloc (.cells #[.int .i64 x.1, .int .i64 x.2.1.1, .int .i64 x.2.1.2, .int .i64 x.2.2.1.1, .int .i64 x.2.2.1.2.1, o1, o2, o3] 97)).heap.size = w.heap.size + 1 := by simp
    rw [hw2, ← h1]
    exact Row.new (w.alloc (.cells #[.int .i64 x.1, .int .i64 x.2.1.1, .int .i64 x.2.1.2, .int .i64 x.2.2.1.1, .int .i64 x.2.2.1.2.1, o1, o2, o3] 97)) 97 [.int .i64 0, .int .i64 0, .int .i64 0, .int .i64 0, .int .i64 0, .slice none 0 0, .slice none 0 0, .slice none 0 0]
  have B : Below w.heap.size w w2 := by rw [hw2]; exact ((Below.refl _ w).alloc (Nat.le_refl _) _).alloc (by simp) _
  have hC : w.heap.size + 2 ≤ w2.heap.size := by rw [hw2]; simp
  go_enter Tryd.func75, Tryd.ntmps75
  go_upto_region 1 with fail
  rw [← hw2]
  clear hw2
  have hI : RReq Any w2 [.int .i64 x.2.2.1.1, .int .i64 x.2.2.1.2.1, o1, o2] (x.2.2.1) := ⟨_, _, rfl, t1.mv (Mv.below B), t2.mv (Mv.below B)⟩
  have hG := cloneReqS_any w2 _ _ hI hz.1
  have hrng : World.rangeAt w2 w.heap.size 3 [.int .i64 x.2.2.1.1, .int .i64 x.2.2.1.2.1, o1, o2] := fun q u hq => ra.cell (j := 3 + q) (by
    match q, hq with
    | 0, hq => exact hq
    | 1, hq => exact hq
    | 2, hq => exact hq
    | 3, hq => exact hq)
  go_upto_region 2 with (first
    | (refine wpList_load_mid rfl _ _ rfl w.heap.size 3 rfl [.int .i64 x.2.2.1.1, .int .i64 x.2.2.1.2.1, o1, o2] _ hrng Tryd.underlying31 rfl (by kernel_rfl) ?_)
    | (go_at_call 22; refine hG.mono ?_; rintro e wa0 ⟨rq0, rfl, hq0, hb0⟩; obtain ⟨a0, b0, rfl, fa0, fb0⟩ := hq0; have rai := ra.below hb0)
    | (refine wl_put rfl _ _ _ rfl w.heap.size 3 [.int .i64 x.2.2.1.1, .int .i64 x.2.2.1.2.1, a0, b0] rfl rfl _ _ rai (show 7 ≤ 8 by decide) (by kernel_rfl) (one4 fa0.one fb0.one) ?_; intro wb0 rbi hg0))
  clear hrng
  have ra : Row wb0 w.heap.size 97 [.int .i64 x.1, .int .i64 x.2.1.1, .int .i64 x.2.1.2, .int .i64 x.2.2.1.1, .int .i64 x.2.2.1.2.1, a0, b0, o3] := rbi.out
  have rr := (rr.below hb0).grown hg0 (fun h => by injection h; omega)
  have fa0 := ((fa0.mv (Mv.weak (L := w.heap.size + 2) hC)).mv (Mv.from hg0 (by omega) (Nat.le_refl _)))
  have fb0 := ((fb0.mv (Mv.weak (L := w.heap.size + 2) hC)).mv (Mv.from hg0 (by omega) (Nat.le_refl _)))
  have B : Below w.heap.size w wb0 := (below_and B (Nat.le_refl _) hb0).trans (grown_below hg0 (below_and B (Nat.le_refl _) hb0).size (fun k hk => by cases hk; exact Nat.le_refl _))
  have hC := Nat.le_trans hC (Nat.le_trans hb0.size hg0.size)
  clear hG hI rai rbi hb0 hg0
  have hI := (t3.mv mov_vote B.size (Mv.below B))
  have cI := ra.cell (j := 7) rfl
  have hG := cvotesS_any wb0 _ _ hI (hz.2)
  go_upto_region 3 with (first
    | (go_at_call 58; refine hG.mono ?_; rintro e wa1 ⟨v1, rfl, f1, hb1⟩; have rai := ra.below hb1)
    | (refine wl_set rfl _ _ _ rfl w.heap.size 7 _ rfl rfl _ _ rai (show 7 < 8 by decide) (by kernel_rfl) f1.one ?_; intro wb1 rbi hg1))
  have ra : Row wb1 w.heap.size 97 [.int .i64 x.1, .int .i64 x.2.1.1, .int .i64 x.2.1.2, .int .i64 x.2.2.1.1, .int .i64 x.2.2.1.2.1, a0, b0, v1] := rbi.out
  have rr := (rr.below hb1).grown hg1 (fun h => by injection h; omega)
  have fa0 := ((fa0.mv (Mv.belowF hb1 (Nat.le_refl _))).mv (Mv.from hg1 (by omega) (Nat.le_refl _)))
  have fb0 := ((fb0.mv (Mv.belowF hb1 (Nat.le_refl _))).mv (Mv.from hg1 (by omega) (Nat.le_refl _)))
  have f1 := ((f1.mv mov_vote (Nat.le_refl _) (Mv.weak (L := w.heap.size + 2) hC)).mv mov_vote hg1.size (Mv.from hg1 (by omega) (Nat.le_refl _)))
  have B : Below w.heap.size w wb1 := (below_and B (Nat.le_refl _) hb1).trans (grown_below hg1 (below_and B (Nat.le_refl _) hb1).size (fun k hk => by cases hk; exact Nat.le_refl _))
  have hC := Nat.le_trans hC (Nat.le_trans hb1.size hg1.size)
  clear hG hI rai rbi hb1 hg1 cI
  have hone : ∀ v ∈ [.int .i64 x.1, .int .i64 x.2.1.1, .int .i64 x.2.1.2, .int .i64 x.2.2.1.1, .int .i64 x.2.2.1.2.1, a0, b0, v1], v.oneCell' = true := by
    intro v hv
    have k_fa0 := fa0.one; have k_fb0 := fb0.one; have k_f1 := f1.one
    simp only [List.mem_cons, List.not_mem_nil, or_false] at hv
    rcases hv with rfl | rfl | rfl | rfl | rfl | rfl | rfl | rfl <;> first | rfl | assumption
  go_wp2_with (first
    | (refine wl_load rfl _ _ rfl w.heap.size rfl _ _ ra _ Tryd.underlying97 rfl (by kernel_rfl) ?_)
    | (refine wl_store rfl _ _ _ rfl (w.heap.size + 1) [.int .i64 x.1, .int .i64 x.2.1.1, .int .i64 x.2.1.2, .int .i64 x.2.2.1.1, .int .i64 x.2.2.1.2.1, a0, b0, v1] rfl rfl _ _ rr rfl (by kernel_rfl) hone ?_; intro w9 rr9 hg9))
  have B9 : Below w.heap.size w w9 := B.trans (grown_below hg9 B.size (fun k hk => by cases hk; omega))
  have fa0 := ((fa0.mv (Mv.from hg9 (by omega) (Nat.le_refl _))).mv (Mv.weak (L := w.heap.size) (by omega)))
  have fb0 := ((fb0.mv (Mv.from hg9 (by omega) (Nat.le_refl _))).mv (Mv.weak (L := w.heap.size) (by omega)))
  have f1 := ((f1.mv mov_vote hg9.size (Mv.from hg9 (by omega) (Nat.le_refl _))).mv mov_vote (Nat.le_refl _) (Mv.weak (L := w.heap.size) (by omega)))
  refine bodyPost_ret (v := .agg ([.int .i64 x.1, .int .i64 x.2.1.1, .int .i64 x.2.1.2, .int .i64 x.2.2.1.1, .int .i64 x.2.2.1.2.1, a0, b0, v1] : List Value).toArray) (results_cell_row rfl _ _ (w.heap.size + 1) _ _ (0, 0) _ (by rfl) rr9.out Tryd.underlying97 rfl (by kernel_rfl)) rfl ?_
  exact ⟨_, rfl, ⟨_, _, _, rfl, fa0, fb0, f1⟩, B9⟩
theorem Tryd.infPrepS : (Tryd.prog.info? 97).map (fun i => (i.zero, i.size, i.bytes)) = some (some (.agg #[.int .i64 0, .int .i64 0, .int .i64 0, .int .i64 0, .int .i64 0, .slice none 0 0, .slice none 0 0, .slice none 0 0]), 8, 112) := by kernel_rfl
set_option maxRecDepth 10000 in
/-- slices.Clone of sessions. -/
theorem sclonePrep_any (w : World) (v : Value) (ys : List PPrep) (h : RL RPrep 8 Any w v ys) (hz : szL 112 szP ys) :
    Calls Tryd.prog 83 #[v] w fun e w' => ∃ v', e = .returned v' ∧ Below w.heap.size w w' ∧ ∃ rows, w'.ownsRow w.heap.size 97 8 v' ys.length rows.flatten ∧ (∀ r ∈ rows, r.length = 8) ∧ All2 (RPrep Any w) rows ys := by
  obtain ⟨rows, ⟨h0, h1⟩, h2⟩ := h
  have hlen := h2.len
  have hz1 := hz.1
  have hfl := flat_len h0
  have hone : ∀ u ∈ rows.flatten, u.oneCell' = true := by
    intro u hu
    obtain ⟨r, hr, hur⟩ := List.mem_flatten.1 hu
    obtain ⟨i, hi, rfl⟩ := List.getElem_of_mem hr
    have := h2.get (List.getElem?_eq_getElem hi) (List.getElem?_eq_getElem (by omega))
    exact one_RPrep this u hur
  have hcell : ∀ b off, (∀ (i : Nat) (r : List Value), rows[i]? = some r → w.rangeAt b (off + i * 8) r) → ∀ j u, rows.flatten[j]? = some u → w.cell? ⟨b, off + j, none⟩ = some u := by
    intro b off hr j u hu
    have hj : j < rows.length * 8 := by rw [← hfl]; exact (List.getElem?_eq_some_iff.1 hu).1
    have hi : j / 8 < rows.length := by omega
    have hk := h0 _ (List.getElem_mem hi)
    have hjm : j % 8 < rows[j / 8].length := by omega
    have e1 := flat_at (j := j % 8) h0 (List.getElem?_eq_getElem hi) (List.getElem?_eq_getElem hjm)
    rw [show j / 8 * 8 + j % 8 = j by omega] at e1
    have e2 := hr (j / 8) _ (List.getElem?_eq_getElem hi) (j % 8) _ (List.getElem?_eq_getElem hjm)
    rw [show off + j / 8 * 8 + j % 8 = off + j by omega] at e2
    rw [e1] at hu
    rw [e2, hu]
  have HR := (show Hid (All2 (RPrep Any w) rows ys) from h2)
  have HN := (show Hid (rows.flatten.length = rows.length * 8) from hfl)
  have HO := (show Hid (∀ u ∈ rows.flatten, u.oneCell' = true) from hone)
  obtain ⟨i0, hi, hz0, hzs, hzb⟩ := info_parts Tryd.infPrepS
  rcases h1 with ⟨ao, cap, rfl, rfl, hcap⟩ | ⟨b, off, cap, rfl, hc1, hc2, hpos, _, hb, hr⟩
  · obtain rfl : ys = [] := List.eq_nil_of_length_eq_zero (by simpa using hlen.symm)
    cases ao with
    | none =>
      have hq : ∀ (n c : Nat) (u : World), (binOp .eql 79 (.slice none 0 cap) (.slice none n c)).run Tryd.prog u = .ok (.bool true) u := fun n c u => Lib.run_eql_slice_nil u 79 97 none 0 cap n c Tryd.underlying79
      go_enter Tryd.func83, Tryd.ntmps83
      go_wp2_with fail
      go_ret
      exact ⟨_, rfl, Below.refl _ _, [], World.ownsRow_nil _ _ _ _, (fun r hr => by cases hr), trivial⟩
    | some a =>
      have hq : ∀ (n c : Nat) (u : World), (binOp .eql 79 (.slice (some a) 0 cap) (.slice none n c)).run Tryd.prog u = .ok (.bool false) u := fun n c u => Lib.run_eql_slice_nil u 79 97 (some a) 0 cap n c Tryd.underlying79
      go_enter Tryd.func83, Tryd.ntmps83
      go_wp2_with (at_builtin; refine wpList_append_own _ rfl _ _ 79 rfl w.heap.size 97 i0 _ 8 112 Tryd.underlying79 hi hz0 hzs hzb rfl (by decide) _ _ _ rfl (World.ownsRow_made w #[] 0 (Nat.le_refl _) (Nat.zero_le _) (by simp)) a 0 cap [] rfl rfl (fun j u hu => by simp at hu) (fun u hu => by cases hu) (by simp) (by simp) (by simp) ?_; intro v' w1 hown hgrow hnil)
      go_ret
      exact ⟨_, rfl, ((Below.refl _ w).alloc (Nat.le_refl _) _).grown hgrow (by simp) (fr_at _ _ _ _ (Nat.le_refl _)), [], by simpa using hown, (fun r hr => by cases hr), trivial⟩
  · have HC := (show Hid (∀ j u, rows.flatten[j]? = some u → w.cell? ⟨b, off + j, none⟩ = some u) from hcell b off hr)
    have hq : ∀ (n c : Nat) (u : World), (binOp .eql 79 (.slice (some ⟨b, off, none⟩) rows.length cap) (.slice none n c)).run Tryd.prog u = .ok (.bool false) u := fun n c u => Lib.run_eql_slice_nil u 79 97 (some ⟨b, off, none⟩) rows.length cap n c Tryd.underlying79
    have hb1 : rows.length * 112 ≤ 140737488355328 := by rw [hlen]; omega
    have hm1 : rows.length ≤ maxLen := by unfold maxLen at *; omega
    have HQ := (show Hid (∀ j u, rows.flatten[j]? = some u → (w.alloc (.cells #[] 97)).cell? ((⟨b, off, none⟩ : Addr).add j) = some u) from fun j u hj => by
      rw [Addr.add_mid]
      exact ((below_alloc w _).cell (p := ⟨b, off + j, none⟩) hb).trans (HC.out j u hj))
    have HL := (show Hid (rows.length = ys.length) from hlen)
    clear hr hcell hfl hone h2 hlen
    go_enter Tryd.func83, Tryd.ntmps83
    go_wp2_with (at_builtin; refine wpList_append_own _ rfl _ _ 79 rfl w.heap.size 97 i0 _ 8 112 Tryd.underlying79 hi hz0 hzs hzb rfl (by decide) _ _ _ rfl (World.ownsRow_made w #[] 0 (Nat.le_refl _) (Nat.zero_le _) (by simp)) ⟨b, off, none⟩ rows.length cap rows.flatten rfl HN.out HQ.out HO.out (by rw [Nat.zero_add]; exact hm1) (by rw [Nat.zero_add]; exact hb1) (by simp) ?_; intro v' w1 hown hgrow hnil)
    go_ret
    exact ⟨_, rfl, ((Below.refl _ w).alloc (Nat.le_refl _) _).grown hgrow (by simp) (fr_at _ _ _ _ (Nat.le_refl _)), rows, by rw [← HL.out]; simpa using hown, h0, HR.out⟩
set_option maxRecDepth 10000 in
set_option maxHeartbeats 2000000 in
/-- clone.list of sessions. -/
theorem clistPrep_any (w : World) (v : Value) (ys : List PPrep) (h : RL RPrep 8 Any w v ys) (hz : szL 112 szP ys) :
    Calls Tryd.prog 74 #[v, .func (.func 75) #[] #[]] w fun e w' => ∃ v', e = .returned v' ∧ RL RPrep 8 (From w.heap.size) w' v' ys ∧ Below w.heap.size w w' := by
  go_enter Tryd.func74, Tryd.ntmps74
  go_wp2_with fail
  refine (sclonePrep_any w v ys h hz).mono ?_
  rintro e w1 ⟨v1, rfl, hb1, rows, hown, h0, hall⟩
  have hlen := hall.len
  rcases hown.2 with ⟨rfl, hy0⟩ | ⟨g, cap, cur, rfl, hg0, hrow, hc1, hc2, hc3, hc4⟩
  · obtain rfl : ys = [] := List.eq_nil_of_length_eq_zero hy0
    go_wp2_with fail
    refine wp_loop_rounds 1 ?_; rw [rounds_succ]
    go_wp2_with fail
    go_ret
    exact ⟨_, rfl, RL.nil _ _ _ _, hb1⟩
  · have hlm : (ys.length : Int) ≤ 9223372036854775807 := by unfold maxLen at hc2; omega
    have m0 : Hid (MixR RPrep 97 8 w.heap.size g ys.length cap 0 w w1 rows ys) := ⟨hb1, cur.toList, [], by unfold Row; simpa using hrow, by simpa using hc3, rfl, (fun r hr => by cases hr), by simpa using hc4, trivial⟩
    have HL := (show Hid (rows.length = ys.length) from hlen)
    have H0 := (show Hid (∀ r ∈ rows, r.length = 8) from h0)
    have HA := (show Hid (All2 (RPrep Any w) rows ys) from hall)
    have HZ := (show Hid (∀ y ∈ ys, szP y) from hz.2)
    clear hown hrow hc3 hc4 hlen h0 hall hb1 h hz
    obtain ⟨n, hn⟩ : ∃ n, n = ys.length := ⟨_, rfl⟩
    rw [← hn] at hlm m0 hc1 HL ⊢
    have HN := (show Hid (ys.length = n) from hn.symm)
    clear hn
    go_wp2_with fail
    go_loopw [12] (fun i wr => ∃ q : Nat, q ≤ n ∧ i = .int .i64 q ∧ Hid (MixR RPrep 97 8 w.heap.size g n cap q w wr rows ys)) (fun i _ => n - (intOf i).toNat)
    case atStart => exact ⟨0, by omega, rfl, m0⟩
    case round =>
      clear m0
      obtain ⟨q, hq, rfl, hM⟩ := hrel
      by_cases hql : q < n
      · obtain ⟨x, hx⟩ : ∃ x, ys[q]? = some x := ⟨_, List.getElem?_eq_getElem (by have := HN.out; omega)⟩
        obtain ⟨r, hr⟩ : ∃ r, rows[q]? = some r := ⟨_, List.getElem?_eq_getElem (by have := HL.out; omega)⟩
        have hxr := HA.out.get hr hx
        have hrng := hM.out.row H0.out hr hql
        have hxr0 := hxr; obtain ⟨o1, o2, o3, rfl, t1, t2, t3⟩ := hxr
        have hB := hM.out.bel
        have hzx := HZ.out x (List.mem_of_getElem? hx)
        have hrow0 := Row.new wr 97 [.int .i64 0, .int .i64 0, .int .i64 0, .int .i64 0, .int .i64 0, .slice none 0 0, .slice none 0 0, .slice none 0 0]
        have HX := (show Hid (ys[q]? = some x) from hx)
        have hone := one_RPrep hxr0
        clear hx hr
        obtain ⟨cur0, A0, kr1, kr2, _⟩ := hM.out.ex
        have hgl := kr1.lt
        have hfit : q * 8 + 8 ≤ cur0.length := by omega
        have K1 := (show Hid (Row wr g 97 cur0) from kr1)
        clear kr1 kr2
        go_wp2_with (first
          | (refine wpList_load_mid rfl _ _ rfl g (q * 8) rfl [.int .i64 x.1, .int .i64 x.2.1.1, .int .i64 x.2.1.2, .int .i64 x.2.2.1.1, .int .i64 x.2.2.1.2.1, o1, o2, o3] _ hrng Tryd.underlying97 rfl (by kernel_rfl) ?_)
          | (refine wl_store rfl _ _ _ rfl wr.heap.size [.int .i64 x.1, .int .i64 x.2.1.1, .int .i64 x.2.1.2, .int .i64 x.2.2.1.1, .int .i64 x.2.2.1.2.1, o1, o2, o3] rfl rfl _ _ hrow0 rfl (by kernel_rfl) hone ?_; intro w5 hr5 hg5; have hb5 : Below wr.heap.size wr w5 := (below_alloc wr _).trans (grown_below hg5 (by simp) (fun k hk => by cases hk; exact Nat.le_refl _)); have hx5 : RPrep Any w5 [.int .i64 x.1, .int .i64 x.2.1.1, .int .i64 x.2.1.2, .int .i64 x.2.2.1.1, .int .i64 x.2.2.1.2.1, o1, o2, o3] x := mov_prep _ _ _ _ _ _ hxr0 (below_and hB (Nat.le_refl _) hb5).size (Mv.below (below_and hB (Nat.le_refl _) hb5)))
          | (refine wl_load rfl _ _ rfl wr.heap.size rfl _ _ hr5.out _ Tryd.underlying97 rfl (by kernel_rfl) ?_)
          | (go_at_call 75; refine (clonePrepS_any w5 [.int .i64 x.1, .int .i64 x.2.1.1, .int .i64 x.2.1.2, .int .i64 x.2.2.1.1, .int .i64 x.2.2.1.2.1, o1, o2, o3] x hx5 hzx).mono ?_; rintro e w6 ⟨r6, rfl, o6, hb6⟩; have o6' := mov_prep _ (From wr.heap.size) _ _ _ _ o6 (Nat.le_refl _) (Mv.weak hb5.size); have on6 := one_RPrep o6'; obtain ⟨p1, p2, p3, rfl, _⟩ := o6; have hb6' := below_and hb5 (Nat.le_refl _) hb6; have kk6 := K1.out.below hb6')
          | (refine wl_put rfl _ _ _ rfl g (q * 8) [.int .i64 x.1, .int .i64 x.2.1.1, .int .i64 x.2.1.2, .int .i64 x.2.2.1.1, .int .i64 x.2.2.1.2.1, p1, p2, p3] rfl rfl _ _ kk6 hfit (by kernel_rfl) on6 ?_; intro w7 hr7 hg7))
        go_roundw
        case rel => exact ⟨q + 1, by omega, by go_num, hM.out.step mov_prep H0.out HL.out hc1 HX.out hql hb6' hg0 rfl o6' hB.size hg7 kk6 hr7.out⟩
        case measure => simp [intOf]; omega
      · go_wp2_with fail
        go_ret
        obtain rfl : q = n := by omega
        exact ⟨_, rfl, (hM.out.done mov_prep HL.out HN.out hc1 hc2 hg0).rl mov_prep, hM.out.bel⟩
set_option maxRecDepth 10000 in
set_option maxHeartbeats 4000000 in
theorem cloneReportS_any (w : World) (r : List Value) (x : PRep) (h : RRep Any w r x) (hz : szR x) :
    Calls Tryd.prog 62 #[.agg r.toArray] w fun e w' => ∃ r', e = .returned (.agg r'.toArray) ∧ RRep (From w.heap.size) w' r' x ∧ Below w.heap.size w w' := by
  obtain ⟨o1, o2, o3, o4, rfl, t1, t2, t3, t4⟩ := h
  obtain ⟨w2, hw2⟩ : ∃ w2, w2 = (w.alloc (.cells #[.int .i64 x.1.1, .int .i64 x.1.2, .int .i64 x.2.1, .int .i64 x.2.2.1, o1, o2, o3, o4] 81)).alloc (.cells #[.int .i64 0, .int .i64 0, .int .i64 0, .int .i64 0, .slice none 0 0, .slice none 0 0, .slice none 0 0, .slice none 0 0] 81) := ⟨_, rfl⟩
  have ra : Row w2 w.heap.size 81 [.int .i64 x.1.1, .int .i64 x.1.2, .int .i64 x.2.1, .int .i64 x.2.2.1, o1, o2, o3, o4] := by rw [hw2]; exact rowA (Row.new w 81 _) _
  have rr : Row w2 (w.heap.size + 1) 81 [.int .i64 0, .int .i64 0, .int .i64 0, .int .i64 0, .slice none 0 0, .slice none 0 0, .slice none 0 0, .slice none 0 0] := by
    have h1 : (w.alloc (.cells #[.int .i64 x.1.1, .int .i64 x.1.2, .int .i64 x.2.1, .int .i64 x.2.2.1, o1, o2, o3, o4] 81)).heap.size = w.heap.size + 1 := by simp
    rw [hw2, ← h1]
    exact Row.new (w.alloc (.cells #[.int .i64 x.1.1, .int .i64 x.1.2, .int .i64 x.2.1, .int .i64 x.2.2.1, o1, o2, o3, o4] 81)) 81 [.int .i64 0, .int .i64 0, .int .i64 0, .int .i64 0, .slice none 0 0, .slice none 0 0, .slice none 0 0, .slice none 0 0]
  have B : Below w.heap.size w w2 := by rw [hw2]; exact ((Below.refl _ w).alloc (Nat.le_refl _) _).alloc (by simp) _
  have hC : w.heap.size + 2 ≤ w2.heap.size := by rw [hw2]; simp
  go_enter Tryd.func62, Tryd.ntmps62
  go_upto_region 1 with fail
  rw [← hw2]
  clear hw2
  have hI := (t1.mv (Mv.below B))
  have cI := ra.cell (j := 4) rfl
  have hG := clone_any w2 _ _ hI.1 (Nat.le_trans (hz.1) (by decide))
  go_upto_region 2 with (first
    | (go_at_call 24; refine hG.mono ?_; rintro e wa0 ⟨v0, rfl, f0, hb0⟩; have rai := ra.below hb0)
    | (refine wl_set rfl _ _ _ rfl w.heap.size 4 _ rfl rfl _ _ rai (show 4 < 8 by decide) (by kernel_rfl) f0.one ?_; intro wb0 rbi hg0))
  have ra : Row wb0 w.heap.size 81 [.int .i64 x.1.1, .int .i64 x.1.2, .int .i64 x.2.1, .int .i64 x.2.2.1, v0, o2, o3, o4] := rbi.out
  have rr := (rr.below hb0).grown hg0 (fun h => by injection h; omega)
  have f0 := ((f0.mv (Mv.weak (L := w.heap.size + 2) hC)).mv (Mv.from hg0 (by omega) (Nat.le_refl _)))
  have B : Below w.heap.size w wb0 := (below_and B (Nat.le_refl _) hb0).trans (grown_below hg0 (below_and B (Nat.le_refl _) hb0).size (fun k hk => by cases hk; exact Nat.le_refl _))
  have hC := Nat.le_trans hC (Nat.le_trans hb0.size hg0.size)
  clear hG hI rai rbi hb0 hg0 cI
  have hI := (t2.mv mov_vote B.size (Mv.below B))
  have cI := ra.cell (j := 5) rfl
  have hG := cvotesS_any wb0 _ _ hI (hz.2.1)
  go_upto_region 3 with (first
    | (go_at_call 58; refine hG.mono ?_; rintro e wa1 ⟨v1, rfl, f1, hb1⟩; have rai := ra.below hb1)
    | (refine wl_set rfl _ _ _ rfl w.heap.size 5 _ rfl rfl _ _ rai (show 5 < 8 by decide) (by kernel_rfl) f1.one ?_; intro wb1 rbi hg1))
  have ra : Row wb1 w.heap.size 81 [.int .i64 x.1.1, .int .i64 x.1.2, .int .i64 x.2.1, .int .i64 x.2.2.1, v0, v1, o3, o4] := rbi.out
  have rr := (rr.below hb1).grown hg1 (fun h => by injection h; omega)
  have f0 := ((f0.mv (Mv.belowF hb1 (Nat.le_refl _))).mv (Mv.from hg1 (by omega) (Nat.le_refl _)))
  have f1 := ((f1.mv mov_vote (Nat.le_refl _) (Mv.weak (L := w.heap.size + 2) hC)).mv mov_vote hg1.size (Mv.from hg1 (by omega) (Nat.le_refl _)))
  have B : Below w.heap.size w wb1 := (below_and B (Nat.le_refl _) hb1).trans (grown_below hg1 (below_and B (Nat.le_refl _) hb1).size (fun k hk => by cases hk; exact Nat.le_refl _))
  have hC := Nat.le_trans hC (Nat.le_trans hb1.size hg1.size)
  clear hG hI rai rbi hb1 hg1 cI
  have hI := (t3.mv mov_prep B.size (Mv.below B))
  have cI := ra.cell (j := 6) rfl
  have hG := clistPrep_any wb1 _ _ hI (hz.2.2.1)
  go_upto_region 4 with (first
    | (go_at_call 74; refine hG.mono ?_; rintro e wa2 ⟨v2, rfl, f2, hb2⟩; have rai := ra.below hb2)
    | (refine wl_set rfl _ _ _ rfl w.heap.size 6 _ rfl rfl _ _ rai (show 6 < 8 by decide) (by kernel_rfl) f2.one ?_; intro wb2 rbi hg2))
  have ra : Row wb2 w.heap.size 81 [.int .i64 x.1.1, .int .i64 x.1.2, .int .i64 x.2.1, .int .i64 x.2.2.1, v0, v1, v2, o4] := rbi.out
  have rr := (rr.below hb2).grown hg2 (fun h => by injection h; omega)
  have f0 := ((f0.mv (Mv.belowF hb2 (Nat.le_refl _))).mv (Mv.from hg2 (by omega) (Nat.le_refl _)))
  have f1 := ((f1.mv mov_vote hb2.size (Mv.belowF hb2 (Nat.le_refl _))).mv mov_vote hg2.size (Mv.from hg2 (by omega) (Nat.le_refl _)))
  have f2 := ((f2.mv mov_prep (Nat.le_refl _) (Mv.weak (L := w.heap.size + 2) hC)).mv mov_prep hg2.size (Mv.from hg2 (by omega) (Nat.le_refl _)))
  have B : Below w.heap.size w wb2 := (below_and B (Nat.le_refl _) hb2).trans (grown_below hg2 (below_and B (Nat.le_refl _) hb2).size (fun k hk => by cases hk; exact Nat.le_refl _))
  have hC := Nat.le_trans hC (Nat.le_trans hb2.size hg2.size)
  clear hG hI rai rbi hb2 hg2 cI
  have hI := (t4.mv (Mv.below B))
  have cI := ra.cell (j := 7) rfl
  have hG := clone_any wb2 _ _ hI.1 (Nat.le_trans (hz.2.2.2) (by decide))
  go_upto_region 5 with (first
    | (go_at_call 24; refine hG.mono ?_; rintro e wa3 ⟨v3, rfl, f3, hb3⟩; have rai := ra.below hb3)
    | (refine wl_set rfl _ _ _ rfl w.heap.size 7 _ rfl rfl _ _ rai (show 7 < 8 by decide) (by kernel_rfl) f3.one ?_; intro wb3 rbi hg3))
  have ra : Row wb3 w.heap.size 81 [.int .i64 x.1.1, .int .i64 x.1.2, .int .i64 x.2.1, .int .i64 x.2.2.1, v0, v1, v2, v3] := rbi.out
  have rr := (rr.below hb3).grown hg3 (fun h => by injection h; omega)
  have f0 := ((f0.mv (Mv.belowF hb3 (Nat.le_refl _))).mv (Mv.from hg3 (by omega) (Nat.le_refl _)))
  have f1 := ((f1.mv mov_vote hb3.size (Mv.belowF hb3 (Nat.le_refl _))).mv mov_vote hg3.size (Mv.from hg3 (by omega) (Nat.le_refl _)))
  have f2 := ((f2.mv mov_prep hb3.size (Mv.belowF hb3 (Nat.le_refl _))).mv mov_prep hg3.size (Mv.from hg3 (by omega) (Nat.le_refl _)))
  have f3 := ((f3.mv (Mv.weak (L := w.heap.size + 2) hC)).mv (Mv.from hg3 (by omega) (Nat.le_refl _)))
  have B : Below w.heap.size w wb3 := (below_and B (Nat.le_refl _) hb3).trans (grown_below hg3 (below_and B (Nat.le_refl _) hb3).size (fun k hk => by cases hk; exact Nat.le_refl _))
  have hC := Nat.le_trans hC (Nat.le_trans hb3.size hg3.size)
  clear hG hI rai rbi hb3 hg3 cI
  have hone : ∀ v ∈ [.int .i64 x.1.1, .int .i64 x.1.2, .int .i64 x.2.1, .int .i64 x.2.2.1, v0, v1, v2, v3], v.oneCell' = true := by
    intro v hv
    have k_f0 := f0.one; have k_f1 := f1.one; have k_f2 := f2.one; have k_f3 := f3.one
    simp only [List.mem_cons, List.not_mem_nil, or_false] at hv
    rcases hv with rfl | rfl | rfl | rfl | rfl | rfl | rfl | rfl <;> first | rfl | assumption
  go_wp2_with (first
    | (refine wl_load rfl _ _ rfl w.heap.size rfl _ _ ra _ Tryd.underlying81 rfl (by kernel_rfl) ?_)
    | (refine wl_store rfl _ _ _ rfl (w.heap.size + 1) [.int .i64 x.1.1, .int .i64 x.1.2, .int .i64 x.2.1, .int .i64 x.2.2.1, v0, v1, v2, v3] rfl rfl _ _ rr rfl (by kernel_rfl) hone ?_; intro w9 rr9 hg9))
  have B9 : Below w.heap.size w w9 := B.trans (grown_below hg9 B.size (fun k hk => by cases hk; omega))
  have f0 := ((f0.mv (Mv.from hg9 (by omega) (Nat.le_refl _))).mv (Mv.weak (L := w.heap.size) (by omega)))
  have f1 := ((f1.mv mov_vote hg9.size (Mv.from hg9 (by omega) (Nat.le_refl _))).mv mov_vote (Nat.le_refl _) (Mv.weak (L := w.heap.size) (by omega)))
  have f2 := ((f2.mv mov_prep hg9.size (Mv.from hg9 (by omega) (Nat.le_refl _))).mv mov_prep (Nat.le_refl _) (Mv.weak (L := w.heap.size) (by omega)))
  have f3 := ((f3.mv (Mv.from hg9 (by omega) (Nat.le_refl _))).mv (Mv.weak (L := w.heap.size) (by omega)))
  refine bodyPost_ret (v := .agg ([.int .i64 x.1.1, .int .i64 x.1.2, .int .i64 x.2.1, .int .i64 x.2.2.1, v0, v1, v2, v3] : List Value).toArray) (results_cell_row rfl _ _ (w.heap.size + 1) _ _ (0, 0) _ (by rfl) rr9.out Tryd.underlying81 rfl (by kernel_rfl)) rfl ?_
  exact ⟨_, rfl, ⟨_, _, _, _, rfl, f0, f1, f2, f3⟩, B9⟩
theorem Tryd.infReportS : (Tryd.prog.info? 81).map (fun i => (i.zero, i.size, i.bytes)) = some (some (.agg #[.int .i64 0, .int .i64 0, .int .i64 0, .int .i64 0, .slice none 0 0, .slice none 0 0, .slice none 0 0, .slice none 0 0]), 8, 128) := by kernel_rfl
set_option maxRecDepth 10000 in
/-- slices.Clone of sessions. -/
theorem scloneReport_any (w : World) (v : Value) (ys : List PRep) (h : RL RRep 8 Any w v ys) (hz : szL 128 szR ys) :
    Calls Tryd.prog 73 #[v] w fun e w' => ∃ v', e = .returned v' ∧ Below w.heap.size w w' ∧ ∃ rows, w'.ownsRow w.heap.size 81 8 v' ys.length rows.flatten ∧ (∀ r ∈ rows, r.length = 8) ∧ All2 (RRep Any w) rows ys := by
  obtain ⟨rows, ⟨h0, h1⟩, h2⟩ := h
  have hlen := h2.len
  have hz1 := hz.1
  have hfl := flat_len h0
  have hone : ∀ u ∈ rows.flatten, u.oneCell' = true := by
    intro u hu
    obtain ⟨r, hr, hur⟩ := List.mem_flatten.1 hu
    obtain ⟨i, hi, rfl⟩ := List.getElem_of_mem hr
    have := h2.get (List.getElem?_eq_getElem hi) (List.getElem?_eq_getElem (by omega))
    exact one_RRep this u hur
  have hcell : ∀ b off, (∀ (i : Nat) (r : List Value), rows[i]? = some r → w.rangeAt b (off + i * 8) r) → ∀ j u, rows.flatten[j]? = some u → w.cell? ⟨b, off + j, none⟩ = some u := by
    intro b off hr j u hu
    have hj : j < rows.length * 8 := by rw [← hfl]; exact (List.getElem?_eq_some_iff.1 hu).1
    have hi : j / 8 < rows.length := by omega
    have hk := h0 _ (List.getElem_mem hi)
    have hjm : j % 8 < rows[j / 8].length := by omega
    have e1 := flat_at (j := j % 8) h0 (List.getElem?_eq_getElem hi) (List.getElem?_eq_getElem hjm)
    rw [show j / 8 * 8 + j % 8 = j by omega] at e1
    have e2 := hr (j / 8) _ (List.getElem?_eq_getElem hi) (j % 8) _ (List.getElem?_eq_getElem hjm)
    rw [show off + j / 8 * 8 + j % 8 = off + j by omega] at e2
    rw [e1] at hu
    rw [e2, hu]
  have HR := (show Hid (All2 (RRep Any w) rows ys) from h2)
  have HN := (show Hid (rows.flatten.length = rows.length * 8) from hfl)
  have HO := (show Hid (∀ u ∈ rows.flatten, u.oneCell' = true) from hone)
  obtain ⟨i0, hi, hz0, hzs, hzb⟩ := info_parts Tryd.infReportS
  rcases h1 with ⟨ao, cap, rfl, rfl, hcap⟩ | ⟨b, off, cap, rfl, hc1, hc2, hpos, _, hb, hr⟩
  · obtain rfl : ys = [] := List.eq_nil_of_length_eq_zero (by simpa using hlen.symm)
    cases ao with
    | none =>
      have hq : ∀ (n c : Nat) (u : World), (binOp .eql 46 (.slice none 0 cap) (.slice none n c)).run Tryd.prog u = .ok (.bool true) u := fun n c u => Lib.run_eql_slice_nil u 46 81 none 0 cap n c Tryd.underlying46
      go_enter Tryd.func73, Tryd.ntmps73
      go_wp2_with fail
      go_ret
      exact ⟨_, rfl, Below.refl _ _, [], World.ownsRow_nil _ _ _ _, (fun r hr => by cases hr), trivial⟩
    | some a =>
      have hq : ∀ (n c : Nat) (u : World), (binOp .eql 46 (.slice (some a) 0 cap) (.slice none n c)).run Tryd.prog u = .ok (.bool false) u := fun n c u => Lib.run_eql_slice_nil u 46 81 (some a) 0 cap n c Tryd.underlying46
      go_enter Tryd.func73, Tryd.ntmps73
      go_wp2_with (at_builtin; refine wpList_append_own _ rfl _ _ 46 rfl w.heap.size 81 i0 _ 8 128 Tryd.underlying46 hi hz0 hzs hzb rfl (by decide) _ _ _ rfl (World.ownsRow_made w #[] 0 (Nat.le_refl _) (Nat.zero_le _) (by simp)) a 0 cap [] rfl rfl (fun j u hu => by simp at hu) (fun u hu => by cases hu) (by simp) (by simp) (by simp) ?_; intro v' w1 hown hgrow hnil)
      go_ret
      exact ⟨_, rfl, ((Below.refl _ w).alloc (Nat.le_refl _) _).grown hgrow (by simp) (fr_at _ _ _ _ (Nat.le_refl _)), [], by simpa using hown, (fun r hr => by cases hr), trivial⟩
  · have HC := (show Hid (∀ j u, rows.flatten[j]? = some u → w.cell? ⟨b, off + j, none⟩ = some u) from hcell b off hr)
    have hq : ∀ (n c : Nat) (u : World), (binOp .eql 46 (.slice (some ⟨b, off, none⟩) rows.length cap) (.slice none n c)).run Tryd.prog u = .ok (.bool false) u := fun n c u => Lib.run_eql_slice_nil u 46 81 (some ⟨b, off, none⟩) rows.length cap n c Tryd.underlying46
    have hb1 : rows.length * 128 ≤ 140737488355328 := by rw [hlen]; omega
    have hm1 : rows.length ≤ maxLen := by unfold maxLen at *; omega
    have HQ := (show Hid (∀ j u, rows.flatten[j]? = some u → (w.alloc (.cells #[] 81)).cell? ((⟨b, off, none⟩ : Addr).add j) = some u) from fun j u hj => by
      rw [Addr.add_mid]
      exact ((below_alloc w _).cell (p := ⟨b, off + j, none⟩) hb).trans (HC.out j u hj))
    have HL := (show Hid (rows.length = ys.length) from hlen)
    clear hr hcell hfl hone h2 hlen
    go_enter Tryd.func73, Tryd.ntmps73
    go_wp2_with (at_builtin; refine wpList_append_own _ rfl _ _ 46 rfl w.heap.size 81 i0 _ 8 128 Tryd.underlying46 hi hz0 hzs hzb rfl (by decide) _ _ _ rfl (World.ownsRow_made w #[] 0 (Nat.le_refl _) (Nat.zero_le _) (by simp)) ⟨b, off, none⟩ rows.length cap rows.flatten rfl HN.out HQ.out HO.out (by rw [Nat.zero_add]; exact hm1) (by rw [Nat.zero_add]; exact hb1) (by simp) ?_; intro v' w1 hown hgrow hnil)
    go_ret
    exact ⟨_, rfl, ((Below.refl _ w).alloc (Nat.le_refl _) _).grown hgrow (by simp) (fr_at _ _ _ _ (Nat.le_refl _)), rows, by rw [← HL.out]; simpa using hown, h0, HR.out⟩
set_option maxRecDepth 10000 in
set_option maxHeartbeats 2000000 in
/-- clone.list of sessions. -/
theorem clistReport_any (w : World) (v : Value) (ys : List PRep) (h : RL RRep 8 Any w v ys) (hz : szL 128 szR ys) :
    Calls Tryd.prog 61 #[v, .func (.func 62) #[] #[]] w fun e w' => ∃ v', e = .returned v' ∧ RL RRep 8 (From w.heap.size) w' v' ys ∧ Below w.heap.size w w' := by
  go_enter Tryd.func61, Tryd.ntmps61
  go_wp2_with fail
  refine (scloneReport_any w v ys h hz).mono ?_
  rintro e w1 ⟨v1, rfl, hb1, rows, hown, h0, hall⟩
  have hlen := hall.len
  rcases hown.2 with ⟨rfl, hy0⟩ | ⟨g, cap, cur, rfl, hg0, hrow, hc1, hc2, hc3, hc4⟩
  · obtain rfl : ys = [] := List.eq_nil_of_length_eq_zero hy0
    go_wp2_with fail
    refine wp_loop_rounds 1 ?_; rw [rounds_succ]
    go_wp2_with fail
    go_ret
    exact ⟨_, rfl, RL.nil _ _ _ _, hb1⟩
  · have hlm : (ys.length : Int) ≤ 9223372036854775807 := by unfold maxLen at hc2; omega
    have m0 : Hid (MixR RRep 81 8 w.heap.size g ys.length cap 0 w w1 rows ys) := ⟨hb1, cur.toList, [], by unfold Row; simpa using hrow, by simpa using hc3, rfl, (fun r hr => by cases hr), by simpa using hc4, trivial⟩
    have HL := (show Hid (rows.length = ys.length) from hlen)
    have H0 := (show Hid (∀ r ∈ rows, r.length = 8) from h0)
    have HA := (show Hid (All2 (RRep Any w) rows ys) from hall)
    have HZ := (show Hid (∀ y ∈ ys, szR y) from hz.2)
    clear hown hrow hc3 hc4 hlen h0 hall hb1 h hz
    obtain ⟨n, hn⟩ : ∃ n, n = ys.length := ⟨_, rfl⟩
    rw [← hn] at hlm m0 hc1 HL ⊢
    have HN := (show Hid (ys.length = n) from hn.symm)
    clear hn
    go_wp2_with fail
    go_loopw [12] (fun i wr => ∃ q : Nat, q ≤ n ∧ i = .int .i64 q ∧ Hid (MixR RRep 81 8 w.heap.size g n cap q w wr rows ys)) (fun i _ => n - (intOf i).toNat)
    case atStart => exact ⟨0, by omega, rfl, m0⟩
    case round =>
      clear m0
      obtain ⟨q, hq, rfl, hM⟩ := hrel
      by_cases hql : q < n
      · obtain ⟨x, hx⟩ : ∃ x, ys[q]? = some x := ⟨_, List.getElem?_eq_getElem (by have := HN.out; omega)⟩
        obtain ⟨r, hr⟩ : ∃ r, rows[q]? = some r := ⟨_, List.getElem?_eq_getElem (by have := HL.out; omega)⟩
        have hxr := HA.out.get hr hx
        have hrng := hM.out.row H0.out hr hql
        have hxr0 := hxr; obtain ⟨o1, o2, o3, o4, rfl, t1, t2, t3, t4⟩ := hxr
        have hB := hM.out.bel
        have hzx := HZ.out x (List.mem_of_getElem? hx)
        have hrow0 := Row.new wr 81 [.int .i64 0, .int .i64 0, .int .i64 0, .int .i64 0, .slice none 0 0, .slice none 0 0, .slice none 0 0, .slice none 0 0]
        have HX := (show Hid (ys[q]? = some x) from hx)
        have hone := one_RRep hxr0
        clear hx hr
        obtain ⟨cur0, A0, kr1, kr2, _⟩ := hM.out.ex
        have hgl := kr1.lt
        have hfit : q * 8 + 8 ≤ cur0.length := by omega
        have K1 := (show Hid (Row wr g 81 cur0) from kr1)
        clear kr1 kr2
        go_wp2_with (first
          | (refine wpList_load_mid rfl _ _ rfl g (q * 8) rfl [.int .i64 x.1.1, .int .i64 x.1.2, .int .i64 x.2.1, .int .i64 x.2.2.1, o1, o2, o3, o4] _ hrng Tryd.underlying81 rfl (by kernel_rfl) ?_)
          | (refine wl_store rfl _ _ _ rfl wr.heap.size [.int .i64 x.1.1, .int .i64 x.1.2, .int .i64 x.2.1, .int .i64 x.2.2.1, o1, o2, o3, o4] rfl rfl _ _ hrow0 rfl (by kernel_rfl) hone ?_; intro w5 hr5 hg5; have hb5 : Below wr.heap.size wr w5 := (below_alloc wr _).trans (grown_below hg5 (by simp) (fun k hk => by cases hk; exact Nat.le_refl _)); have hx5 : RRep Any w5 [.int .i64 x.1.1, .int .i64 x.1.2, .int .i64 x.2.1, .int .i64 x.2.2.1, o1, o2, o3, o4] x := mov_rep _ _ _ _ _ _ hxr0 (below_and hB (Nat.le_refl _) hb5).size (Mv.below (below_and hB (Nat.le_refl _) hb5)))
          | (refine wl_load rfl _ _ rfl wr.heap.size rfl _ _ hr5.out _ Tryd.underlying81 rfl (by kernel_rfl) ?_)
          | (go_at_call 62; refine (cloneReportS_any w5 [.int .i64 x.1.1, .int .i64 x.1.2, .int .i64 x.2.1, .int .i64 x.2.2.1, o1, o2, o3, o4] x hx5 hzx).mono ?_; rintro e w6 ⟨r6, rfl, o6, hb6⟩; have o6' := mov_rep _ (From wr.heap.size) _ _ _ _ o6 (Nat.le_refl _) (Mv.weak hb5.size); have on6 := one_RRep o6'; obtain ⟨p1, p2, p3, p4, rfl, _⟩ := o6; have hb6' := below_and hb5 (Nat.le_refl _) hb6; have kk6 := K1.out.below hb6')
          | (refine wl_put rfl _ _ _ rfl g (q * 8) [.int .i64 x.1.1, .int .i64 x.1.2, .int .i64 x.2.1, .int .i64 x.2.2.1, p1, p2, p3, p4] rfl rfl _ _ kk6 hfit (by kernel_rfl) on6 ?_; intro w7 hr7 hg7))
        go_roundw
        case rel => exact ⟨q + 1, by omega, by go_num, hM.out.step mov_rep H0.out HL.out hc1 HX.out hql hb6' hg0 rfl o6' hB.size hg7 kk6 hr7.out⟩
        case measure => simp [intOf]; omega
      · go_wp2_with fail
        go_ret
        obtain rfl : q = n := by omega
        exact ⟨_, rfl, (hM.out.done mov_rep HL.out HN.out hc1 hc2 hg0).rl mov_rep, hM.out.bel⟩
end Go.Proofs.YtajmgpgjkalfkaaDoor
end

section
set_option linter.unusedVariables false
set_option linter.unusedSimpArgs false
namespace Go.Proofs.YtajmgpgjkalfkaaDoor
open Go.RowKit Oct

theorem one_RIntS {G : Nat → Prop} {w : World} {r : List Value} {x : Int} (h : RInt G w r x) : ∀ v ∈ r, v.oneCell' = true := by
  intro v hv
  rw [h] at hv
  simp at hv
  subst hv
  rfl
theorem Tryd.infIntS : (Tryd.prog.info? 3).map (fun i => (i.zero, i.size, i.bytes)) = some (some (.int .i64 0), 1, 8) := by kernel_rfl
set_option maxRecDepth 10000 in
/-- slices.Clone of sessions. -/
theorem scloneIntR_any (w : World) (v : Value) (ys : List Int) (h : RL RInt 1 Any w v ys) (hz : szL 8 (fun _ => True) ys) :
    Calls Tryd.prog 59 #[v] w fun e w' => ∃ v', e = .returned v' ∧ Below w.heap.size w w' ∧ ∃ rows, w'.ownsRow w.heap.size 3 1 v' ys.length rows.flatten ∧ (∀ r ∈ rows, r.length = 1) ∧ All2 (RInt Any w) rows ys := by
  obtain ⟨rows, ⟨h0, h1⟩, h2⟩ := h
  have hlen := h2.len
  have hz1 := hz.1
  have hfl := flat_len h0
  have hone : ∀ u ∈ rows.flatten, u.oneCell' = true := by
    intro u hu
    obtain ⟨r, hr, hur⟩ := List.mem_flatten.1 hu
    obtain ⟨i, hi, rfl⟩ := List.getElem_of_mem hr
    have := h2.get (List.getElem?_eq_getElem hi) (List.getElem?_eq_getElem (by omega))
    exact one_RIntS this u hur
  have hcell : ∀ b off, (∀ (i : Nat) (r : List Value), rows[i]? = some r → w.rangeAt b (off + i * 1) r) → ∀ j u, rows.flatten[j]? = some u → w.cell? ⟨b, off + j, none⟩ = some u := by
    intro b off hr j u hu
    have hj : j < rows.length * 1 := by rw [← hfl]; exact (List.getElem?_eq_some_iff.1 hu).1
    have hi : j / 1 < rows.length := by omega
    have hk := h0 _ (List.getElem_mem hi)
    have hjm : j % 1 < rows[j / 1].length := by omega
    have e1 := flat_at (j := j % 1) h0 (List.getElem?_eq_getElem hi) (List.getElem?_eq_getElem hjm)
    rw [show j / 1 * 1 + j % 1 = j by omega] at e1
    have e2 := hr (j / 1) _ (List.getElem?_eq_getElem hi) (j % 1) _ (List.getElem?_eq_getElem hjm)
    rw [show off + j / 1 * 1 + j % 1 = off + j by omega] at e2
    rw [e1] at hu
    rw [e2, hu]
  have HR := (show Hid (All2 (RInt Any w) rows ys) from h2)
  have HN := (show Hid (rows.flatten.length = rows.length * 1) from hfl)
  have HO := (show Hid (∀ u ∈ rows.flatten, u.oneCell' = true) from hone)
  obtain ⟨i0, hi, hz0, hzs, hzb⟩ := info_parts Tryd.infIntS
  rcases h1 with ⟨ao, cap, rfl, rfl, hcap⟩ | ⟨b, off, cap, rfl, hc1, hc2, hpos, _, hb, hr⟩
  · obtain rfl : ys = [] := List.eq_nil_of_length_eq_zero (by simpa using hlen.symm)
    cases ao with
    | none =>
      have hq : ∀ (n c : Nat) (u : World), (binOp .eql 44 (.slice none 0 cap) (.slice none n c)).run Tryd.prog u = .ok (.bool true) u := fun n c u => Lib.run_eql_slice_nil u 44 3 none 0 cap n c Tryd.underlying44
      go_enter Tryd.func59, Tryd.ntmps59
      go_wp2_with fail
      go_ret
      exact ⟨_, rfl, Below.refl _ _, [], World.ownsRow_nil _ _ _ _, (fun r hr => by cases hr), trivial⟩
    | some a =>
      have hq : ∀ (n c : Nat) (u : World), (binOp .eql 44 (.slice (some a) 0 cap) (.slice none n c)).run Tryd.prog u = .ok (.bool false) u := fun n c u => Lib.run_eql_slice_nil u 44 3 (some a) 0 cap n c Tryd.underlying44
      go_enter Tryd.func59, Tryd.ntmps59
      go_wp2_with (at_builtin; refine wpList_append_own _ rfl _ _ 44 rfl w.heap.size 3 i0 _ 1 8 Tryd.underlying44 hi hz0 hzs hzb rfl (by decide) _ _ _ rfl (World.ownsRow_made w #[] 0 (Nat.le_refl _) (Nat.zero_le _) (by simp)) a 0 cap [] rfl rfl (fun j u hu => by simp at hu) (fun u hu => by cases hu) (by simp) (by simp) (by simp) ?_; intro v' w1 hown hgrow hnil)
      go_ret
      exact ⟨_, rfl, ((Below.refl _ w).alloc (Nat.le_refl _) _).grown hgrow (by simp) (fr_at _ _ _ _ (Nat.le_refl _)), [], by simpa using hown, (fun r hr => by cases hr), trivial⟩
  · have HC := (show Hid (∀ j u, rows.flatten[j]? = some u → w.cell? ⟨b, off + j, none⟩ = some u) from hcell b off hr)
    have hq : ∀ (n c : Nat) (u : World), (binOp .eql 44 (.slice (some ⟨b, off, none⟩) rows.length cap) (.slice none n c)).run Tryd.prog u = .ok (.bool false) u := fun n c u => Lib.run_eql_slice_nil u 44 3 (some ⟨b, off, none⟩) rows.length cap n c Tryd.underlying44
    have hb1 : rows.length * 8 ≤ 140737488355328 := by rw [hlen]; omega
    have hm1 : rows.length ≤ maxLen := by unfold maxLen at *; omega
    have HQ := (show Hid (∀ j u, rows.flatten[j]? = some u → (w.alloc (.cells #[] 3)).cell? ((⟨b, off, none⟩ : Addr).add j) = some u) from fun j u hj => by
      rw [Addr.add_mid]
      exact ((below_alloc w _).cell (p := ⟨b, off + j, none⟩) hb).trans (HC.out j u hj))
    have HL := (show Hid (rows.length = ys.length) from hlen)
    clear hr hcell hfl hone h2 hlen
    go_enter Tryd.func59, Tryd.ntmps59
    go_wp2_with (at_builtin; refine wpList_append_own _ rfl _ _ 44 rfl w.heap.size 3 i0 _ 1 8 Tryd.underlying44 hi hz0 hzs hzb rfl (by decide) _ _ _ rfl (World.ownsRow_made w #[] 0 (Nat.le_refl _) (Nat.zero_le _) (by simp)) ⟨b, off, none⟩ rows.length cap rows.flatten rfl HN.out HQ.out HO.out (by rw [Nat.zero_add]; exact hm1) (by rw [Nat.zero_add]; exact hb1) (by simp) ?_; intro v' w1 hown hgrow hnil)
    go_ret
    exact ⟨_, rfl, ((Below.refl _ w).alloc (Nat.le_refl _) _).grown hgrow (by simp) (fr_at _ _ _ _ (Nat.le_refl _)), rows, by rw [← HL.out]; simpa using hown, h0, HR.out⟩
theorem scloneInts_any (w : World) (v : Value) (ys : List Int) (h : RL RInt 1 Any w v ys) (hz : szL 8 (fun _ => True) ys) :
    Calls Tryd.prog 59 #[v] w fun e w' => ∃ v', e = .returned v' ∧ RL RInt 1 (From w.heap.size) w' v' ys ∧ Below w.heap.size w w' := by
  refine (scloneIntR_any w v ys h hz).mono ?_
  rintro e w' ⟨v', e1, hb, rows, hown, h0, hall⟩
  refine ⟨v', e1, ?_, hb⟩
  have hlen := hall.len
  have hL : LB RInt 3 1 w.heap.size w' v' ys := ⟨rows, h0, by rw [hlen]; exact owns_base hown, fun k hk => (World.ownsRow.lt hown k hk).1, hall.mono fun r a h => h⟩
  exact hL.rl mov_int
set_option maxRecDepth 10000 in
set_option maxHeartbeats 8000000 in
theorem cloneMsgS_any (w : World) (m : PMsg) (s : SV) (hs : SOk Any w m s) (hz : szM m) :
    Calls Tryd.prog 51 #[.agg (mc m s).toArray] w fun e w' => ∃ s', e = .returned (.agg (mc m s').toArray) ∧ SOk (From w.heap.size) w' m s' ∧ Below w.heap.size w w' := by
  obtain ⟨w2, hw2⟩ : ∃ w2, w2 = (w.alloc (.cells (mc m s).toArray 48)).alloc (.cells #[.int .i64 0, .int .i64 0, .int .i64 0, .int .i64 0, .int .i64 0, .int .i64 0, .int .i64 0, .int .i64 0, .int .i64 0, .int .i64 0, .slice none 0 0, .slice none 0 0, .int .i64 0, .int .i64 0, .slice none 0 0, .slice none 0 0, .slice none 0 0, .slice none 0 0, .slice none 0 0, .slice none 0 0, .slice none 0 0, .slice none 0 0, .slice none 0 0] 48) := ⟨_, rfl⟩
  have ra : Row w2 w.heap.size 48 [.int .i64 m.kind, .int .i64 m.bal.1, .int .i64 m.bal.2, .int .i64 m.slot, .int .i64 m.frm, .int .i64 m.to, .int .i64 m.idx, .int .i64 m.cnt, .int .i64 m.req.1, .int .i64 m.req.2.1, s.o, s.g, .int .i64 m.oth.1, .int .i64 m.oth.2.1, s.o', s.g', s.d, s.s, s.c, s.v, s.n, s.p, s.l] := by rw [hw2]; exact rowA (Row.new w 48 (mc m s)) _
  have rr : Row w2 (w.heap.size + 1) 48 [.int .i64 0, .int .i64 0, .int .i64 0, .int .i64 0, .int .i64 0, .int .i64 0, .int .i64 0, .int .i64 0, .int .i64 0, .int .i64 0, .slice none 0 0, .slice none 0 0, .int .i64 0, .int .i64 0, .slice none 0 0, .slice none 0 0, .slice none 0 0, .slice none 0 0, .slice none 0 0, .slice none 0 0, .slice none 0 0, .slice none 0 0, .slice none 0 0] := by
    have h1 : (w.alloc (.cells (mc m s).toArray 48)).heap.size = w.heap.size + 1 := by simp
    rw [hw2, ← h1]
    exact Row.new (w.alloc (.cells (mc m s).toArray 48)) 48 [.int .i64 0, .int .i64 0, .int .i64 0, .int .i64 0, .int .i64 0, .int .i64 0, .int .i64 0, .int .i64 0, .int .i64 0, .int .i64 0, .slice none 0 0, .slice none 0 0, .int .i64 0, .int .i64 0, .slice none 0 0, .slice none 0 0, .slice none 0 0, .slice none 0 0, .slice none 0 0, .slice none 0 0, .slice none 0 0, .slice none 0 0, .slice none 0 0]
  have B : Below w.heap.size w w2 := by rw [hw2]; exact ((Below.refl _ w).alloc (Nat.le_refl _) _).alloc (by simp) _
  have hC : w.heap.size + 2 ≤ w2.heap.size := by rw [hw2]; simp
  go_enter Tryd.func51, Tryd.ntmps51
  go_upto_region 1 with fail
  rw [← hw2]
  clear hw2
  have hI : RReq Any w2 [.int .i64 m.req.1, .int .i64 m.req.2.1, s.o, s.g] (m.req) := ⟨_, _, rfl, hs.o.mv (Mv.below B), hs.g.mv (Mv.below B)⟩
  have hG := cloneReqS_any w2 _ _ hI hz.req
  have hrng : World.rangeAt w2 w.heap.size 8 [.int .i64 m.req.1, .int .i64 m.req.2.1, s.o, s.g] := fun q u hq => ra.cell (j := 8 + q) (by
    match q, hq with
    | 0, hq => exact hq
    | 1, hq => exact hq
    | 2, hq => exact hq
    | 3, hq => exact hq)
  go_upto_region 2 with (first
    | (refine wpList_load_mid rfl _ _ rfl w.heap.size 8 rfl [.int .i64 m.req.1, .int .i64 m.req.2.1, s.o, s.g] _ hrng Tryd.underlying31 rfl (by kernel_rfl) ?_)
    | (go_at_call 22; refine hG.mono ?_; rintro e wa0 ⟨rq0, rfl, hq0, hb0⟩; obtain ⟨a0, b0, rfl, fa0, fb0⟩ := hq0; have rai := ra.below hb0)
    | (refine wl_put rfl _ _ _ rfl w.heap.size 8 [.int .i64 m.req.1, .int .i64 m.req.2.1, a0, b0] rfl rfl _ _ rai (show 12 ≤ 23 by decide) (by kernel_rfl) (one4 fa0.one fb0.one) ?_; intro wb0 rbi hg0))
  clear hrng
  have ra : Row wb0 w.heap.size 48 [.int .i64 m.kind, .int .i64 m.bal.1, .int .i64 m.bal.2, .int .i64 m.slot, .int .i64 m.frm, .int .i64 m.to, .int .i64 m.idx, .int .i64 m.cnt, .int .i64 m.req.1, .int .i64 m.req.2.1, a0, b0, .int .i64 m.oth.1, .int .i64 m.oth.2.1, s.o', s.g', s.d, s.s, s.c, s.v, s.n, s.p, s.l] := rbi.out
  have rr := (rr.below hb0).grown hg0 (fun h => by injection h; omega)
  have fa0 := ((fa0.mv (Mv.weak (L := w.heap.size + 2) hC)).mv (Mv.from hg0 (by omega) (Nat.le_refl _)))
  have fb0 := ((fb0.mv (Mv.weak (L := w.heap.size + 2) hC)).mv (Mv.from hg0 (by omega) (Nat.le_refl _)))
  have B : Below w.heap.size w wb0 := (below_and B (Nat.le_refl _) hb0).trans (grown_below hg0 (below_and B (Nat.le_refl _) hb0).size (fun k hk => by cases hk; exact Nat.le_refl _))
  have hC := Nat.le_trans hC (Nat.le_trans hb0.size hg0.size)
  clear hG hI rai rbi hb0 hg0
  have hI : RReq Any wb0 [.int .i64 m.oth.1, .int .i64 m.oth.2.1, s.o', s.g'] (m.oth) := ⟨_, _, rfl, hs.o'.mv (Mv.below B), hs.g'.mv (Mv.below B)⟩
  have hG := cloneReqS_any wb0 _ _ hI hz.oth
  have hrng : World.rangeAt wb0 w.heap.size 12 [.int .i64 m.oth.1, .int .i64 m.oth.2.1, s.o', s.g'] := fun q u hq => ra.cell (j := 12 + q) (by
    match q, hq with
    | 0, hq => exact hq
    | 1, hq => exact hq
    | 2, hq => exact hq
    | 3, hq => exact hq)
  go_upto_region 3 with (first
    | (refine wpList_load_mid rfl _ _ rfl w.heap.size 12 rfl [.int .i64 m.oth.1, .int .i64 m.oth.2.1, s.o', s.g'] _ hrng Tryd.underlying31 rfl (by kernel_rfl) ?_)
    | (go_at_call 22; refine hG.mono ?_; rintro e wa1 ⟨rq1, rfl, hq1, hb1⟩; obtain ⟨a1, b1, rfl, fa1, fb1⟩ := hq1; have rai := ra.below hb1)
    | (refine wl_put rfl _ _ _ rfl w.heap.size 12 [.int .i64 m.oth.1, .int .i64 m.oth.2.1, a1, b1] rfl rfl _ _ rai (show 16 ≤ 23 by decide) (by kernel_rfl) (one4 fa1.one fb1.one) ?_; intro wb1 rbi hg1))
  clear hrng
  have ra : Row wb1 w.heap.size 48 [.int .i64 m.kind, .int .i64 m.bal.1, .int .i64 m.bal.2, .int .i64 m.slot, .int .i64 m.frm, .int .i64 m.to, .int .i64 m.idx, .int .i64 m.cnt, .int .i64 m.req.1, .int .i64 m.req.2.1, a0, b0, .int .i64 m.oth.1, .int .i64 m.oth.2.1, a1, b1, s.d, s.s, s.c, s.v, s.n, s.p, s.l] := rbi.out
  have rr := (rr.below hb1).grown hg1 (fun h => by injection h; omega)
  have fa0 := ((fa0.mv (Mv.belowF hb1 (Nat.le_refl _))).mv (Mv.from hg1 (by omega) (Nat.le_refl _)))
  have fb0 := ((fb0.mv (Mv.belowF hb1 (Nat.le_refl _))).mv (Mv.from hg1 (by omega) (Nat.le_refl _)))
  have fa1 := ((fa1.mv (Mv.weak (L := w.heap.size + 2) hC)).mv (Mv.from hg1 (by omega) (Nat.le_refl _)))
  have fb1 := ((fb1.mv (Mv.weak (L := w.heap.size + 2) hC)).mv (Mv.from hg1 (by omega) (Nat.le_refl _)))
  have B : Below w.heap.size w wb1 := (below_and B (Nat.le_refl _) hb1).trans (grown_below hg1 (below_and B (Nat.le_refl _) hb1).size (fun k hk => by cases hk; exact Nat.le_refl _))
  have hC := Nat.le_trans hC (Nat.le_trans hb1.size hg1.size)
  clear hG hI rai rbi hb1 hg1
  have hI := (hs.d.mv (Mv.below B))
  have cI := ra.cell (j := 16) rfl
  have hG := clone_any wb1 _ _ hI.1 (Nat.le_trans (hz.data) (by decide))
  go_upto_region 4 with (first
    | (go_at_call 24; refine hG.mono ?_; rintro e wa2 ⟨v2, rfl, f2, hb2⟩; have rai := ra.below hb2)
    | (refine wl_set rfl _ _ _ rfl w.heap.size 16 _ rfl rfl _ _ rai (show 16 < 23 by decide) (by kernel_rfl) f2.one ?_; intro wb2 rbi hg2))
  have ra : Row wb2 w.heap.size 48 [.int .i64 m.kind, .int .i64 m.bal.1, .int .i64 m.bal.2, .int .i64 m.slot, .int .i64 m.frm, .int .i64 m.to, .int .i64 m.idx, .int .i64 m.cnt, .int .i64 m.req.1, .int .i64 m.req.2.1, a0, b0, .int .i64 m.oth.1, .int .i64 m.oth.2.1, a1, b1, v2, s.s, s.c, s.v, s.n, s.p, s.l] := rbi.out
  have rr := (rr.below hb2).grown hg2 (fun h => by injection h; omega)
  have fa0 := ((fa0.mv (Mv.belowF hb2 (Nat.le_refl _))).mv (Mv.from hg2 (by omega) (Nat.le_refl _)))
  have fb0 := ((fb0.mv (Mv.belowF hb2 (Nat.le_refl _))).mv (Mv.from hg2 (by omega) (Nat.le_refl _)))
  have fa1 := ((fa1.mv (Mv.belowF hb2 (Nat.le_refl _))).mv (Mv.from hg2 (by omega) (Nat.le_refl _)))
  have fb1 := ((fb1.mv (Mv.belowF hb2 (Nat.le_refl _))).mv (Mv.from hg2 (by omega) (Nat.le_refl _)))
  have f2 := ((f2.mv (Mv.weak (L := w.heap.size + 2) hC)).mv (Mv.from hg2 (by omega) (Nat.le_refl _)))
  have B : Below w.heap.size w wb2 := (below_and B (Nat.le_refl _) hb2).trans (grown_below hg2 (below_and B (Nat.le_refl _) hb2).size (fun k hk => by cases hk; exact Nat.le_refl _))
  have hC := Nat.le_trans hC (Nat.le_trans hb2.size hg2.size)
  clear hG hI rai rbi hb2 hg2 cI
  have hI := (hs.s.mv (Mv.below B))
  have cI := ra.cell (j := 17) rfl
  have hG := clone_any wb2 _ _ hI.1 (Nat.le_trans (hz.sig) (by decide))
  go_upto_region 5 with (first
    | (go_at_call 24; refine hG.mono ?_; rintro e wa3 ⟨v3, rfl, f3, hb3⟩; have rai := ra.below hb3)
    | (refine wl_set rfl _ _ _ rfl w.heap.size 17 _ rfl rfl _ _ rai (show 17 < 23 by decide) (by kernel_rfl) f3.one ?_; intro wb3 rbi hg3))
  have ra : Row wb3 w.heap.size 48 [.int .i64 m.kind, .int .i64 m.bal.1, .int .i64 m.bal.2, .int .i64 m.slot, .int .i64 m.frm, .int .i64 m.to, .int .i64 m.idx, .int .i64 m.cnt, .int .i64 m.req.1, .int .i64 m.req.2.1, a0, b0, .int .i64 m.oth.1, .int .i64 m.oth.2.1, a1, b1, v2, v3, s.c, s.v, s.n, s.p, s.l] := rbi.out
  have rr := (rr.below hb3).grown hg3 (fun h => by injection h; omega)
  have fa0 := ((fa0.mv (Mv.belowF hb3 (Nat.le_refl _))).mv (Mv.from hg3 (by omega) (Nat.le_refl _)))
  have fb0 := ((fb0.mv (Mv.belowF hb3 (Nat.le_refl _))).mv (Mv.from hg3 (by omega) (Nat.le_refl _)))
  have fa1 := ((fa1.mv (Mv.belowF hb3 (Nat.le_refl _))).mv (Mv.from hg3 (by omega) (Nat.le_refl _)))
  have fb1 := ((fb1.mv (Mv.belowF hb3 (Nat.le_refl _))).mv (Mv.from hg3 (by omega) (Nat.le_refl _)))
  have f2 := ((f2.mv (Mv.belowF hb3 (Nat.le_refl _))).mv (Mv.from hg3 (by omega) (Nat.le_refl _)))
  have f3 := ((f3.mv (Mv.weak (L := w.heap.size + 2) hC)).mv (Mv.from hg3 (by omega) (Nat.le_refl _)))
  have B : Below w.heap.size w wb3 := (below_and B (Nat.le_refl _) hb3).trans (grown_below hg3 (below_and B (Nat.le_refl _) hb3).size (fun k hk => by cases hk; exact Nat.le_refl _))
  have hC := Nat.le_trans hC (Nat.le_trans hb3.size hg3.size)
  clear hG hI rai rbi hb3 hg3 cI
  have hI := (hs.c.mv mov_vote B.size (Mv.below B))
  have cI := ra.cell (j := 18) rfl
  have hG := cvotesS_any wb3 _ _ hI (hz.cert)
  go_upto_region 6 with (first
    | (go_at_call 58; refine hG.mono ?_; rintro e wa4 ⟨v4, rfl, f4, hb4⟩; have rai := ra.below hb4)
    | (refine wl_set rfl _ _ _ rfl w.heap.size 18 _ rfl rfl _ _ rai (show 18 < 23 by decide) (by kernel_rfl) f4.one ?_; intro wb4 rbi hg4))
  have ra : Row wb4 w.heap.size 48 [.int .i64 m.kind, .int .i64 m.bal.1, .int .i64 m.bal.2, .int .i64 m.slot, .int .i64 m.frm, .int .i64 m.to, .int .i64 m.idx, .int .i64 m.cnt, .int .i64 m.req.1, .int .i64 m.req.2.1, a0, b0, .int .i64 m.oth.1, .int .i64 m.oth.2.1, a1, b1, v2, v3, v4, s.v, s.n, s.p, s.l] := rbi.out
  have rr := (rr.below hb4).grown hg4 (fun h => by injection h; omega)
  have fa0 := ((fa0.mv (Mv.belowF hb4 (Nat.le_refl _))).mv (Mv.from hg4 (by omega) (Nat.le_refl _)))
  have fb0 := ((fb0.mv (Mv.belowF hb4 (Nat.le_refl _))).mv (Mv.from hg4 (by omega) (Nat.le_refl _)))
  have fa1 := ((fa1.mv (Mv.belowF hb4 (Nat.le_refl _))).mv (Mv.from hg4 (by omega) (Nat.le_refl _)))
  have fb1 := ((fb1.mv (Mv.belowF hb4 (Nat.le_refl _))).mv (Mv.from hg4 (by omega) (Nat.le_refl _)))
  have f2 := ((f2.mv (Mv.belowF hb4 (Nat.le_refl _))).mv (Mv.from hg4 (by omega) (Nat.le_refl _)))
  have f3 := ((f3.mv (Mv.belowF hb4 (Nat.le_refl _))).mv (Mv.from hg4 (by omega) (Nat.le_refl _)))
  have f4 := ((f4.mv mov_vote (Nat.le_refl _) (Mv.weak (L := w.heap.size + 2) hC)).mv mov_vote hg4.size (Mv.from hg4 (by omega) (Nat.le_refl _)))
  have B : Below w.heap.size w wb4 := (below_and B (Nat.le_refl _) hb4).trans (grown_below hg4 (below_and B (Nat.le_refl _) hb4).size (fun k hk => by cases hk; exact Nat.le_refl _))
  have hC := Nat.le_trans hC (Nat.le_trans hb4.size hg4.size)
  clear hG hI rai rbi hb4 hg4 cI
  have hI := (hs.v.mv mov_vote B.size (Mv.below B))
  have cI := ra.cell (j := 19) rfl
  have hG := cvotesS_any wb4 _ _ hI (hz.votes)
  go_upto_region 7 with (first
    | (go_at_call 58; refine hG.mono ?_; rintro e wa5 ⟨v5, rfl, f5, hb5⟩; have rai := ra.below hb5)
    | (refine wl_set rfl _ _ _ rfl w.heap.size 19 _ rfl rfl _ _ rai (show 19 < 23 by decide) (by kernel_rfl) f5.one ?_; intro wb5 rbi hg5))
  have ra : Row wb5 w.heap.size 48 [.int .i64 m.kind, .int .i64 m.bal.1, .int .i64 m.bal.2, .int .i64 m.slot, .int .i64 m.frm, .int .i64 m.to, .int .i64 m.idx, .int .i64 m.cnt, .int .i64 m.req.1, .int .i64 m.req.2.1, a0, b0, .int .i64 m.oth.1, .int .i64 m.oth.2.1, a1, b1, v2, v3, v4, v5, s.n, s.p, s.l] := rbi.out
  have rr := (rr.below hb5).grown hg5 (fun h => by injection h; omega)
  have fa0 := ((fa0.mv (Mv.belowF hb5 (Nat.le_refl _))).mv (Mv.from hg5 (by omega) (Nat.le_refl _)))
  have fb0 := ((fb0.mv (Mv.belowF hb5 (Nat.le_refl _))).mv (Mv.from hg5 (by omega) (Nat.le_refl _)))
  have fa1 := ((fa1.mv (Mv.belowF hb5 (Nat.le_refl _))).mv (Mv.from hg5 (by omega) (Nat.le_refl _)))
  have fb1 := ((fb1.mv (Mv.belowF hb5 (Nat.le_refl _))).mv (Mv.from hg5 (by omega) (Nat.le_refl _)))
  have f2 := ((f2.mv (Mv.belowF hb5 (Nat.le_refl _))).mv (Mv.from hg5 (by omega) (Nat.le_refl _)))
  have f3 := ((f3.mv (Mv.belowF hb5 (Nat.le_refl _))).mv (Mv.from hg5 (by omega) (Nat.le_refl _)))
  have f4 := ((f4.mv mov_vote hb5.size (Mv.belowF hb5 (Nat.le_refl _))).mv mov_vote hg5.size (Mv.from hg5 (by omega) (Nat.le_refl _)))
  have f5 := ((f5.mv mov_vote (Nat.le_refl _) (Mv.weak (L := w.heap.size + 2) hC)).mv mov_vote hg5.size (Mv.from hg5 (by omega) (Nat.le_refl _)))
  have B : Below w.heap.size w wb5 := (below_and B (Nat.le_refl _) hb5).trans (grown_below hg5 (below_and B (Nat.le_refl _) hb5).size (fun k hk => by cases hk; exact Nat.le_refl _))
  have hC := Nat.le_trans hC (Nat.le_trans hb5.size hg5.size)
  clear hG hI rai rbi hb5 hg5 cI
  have hI := (hs.n.mv mov_int B.size (Mv.below B))
  have cI := ra.cell (j := 20) rfl
  have hG := scloneInts_any wb5 _ _ hI (hz.order)
  go_upto_region 8 with (first
    | (go_at_call 59; refine hG.mono ?_; rintro e wa6 ⟨v6, rfl, f6, hb6⟩; have rai := ra.below hb6)
    | (refine wl_set rfl _ _ _ rfl w.heap.size 20 _ rfl rfl _ _ rai (show 20 < 23 by decide) (by kernel_rfl) f6.one ?_; intro wb6 rbi hg6))
  have ra : Row wb6 w.heap.size 48 [.int .i64 m.kind, .int .i64 m.bal.1, .int .i64 m.bal.2, .int .i64 m.slot, .int .i64 m.frm, .int .i64 m.to, .int .i64 m.idx, .int .i64 m.cnt, .int .i64 m.req.1, .int .i64 m.req.2.1, a0, b0, .int .i64 m.oth.1, .int .i64 m.oth.2.1, a1, b1, v2, v3, v4, v5, v6, s.p, s.l] := rbi.out
  have rr := (rr.below hb6).grown hg6 (fun h => by injection h; omega)
  have fa0 := ((fa0.mv (Mv.belowF hb6 (Nat.le_refl _))).mv (Mv.from hg6 (by omega) (Nat.le_refl _)))
  have fb0 := ((fb0.mv (Mv.belowF hb6 (Nat.le_refl _))).mv (Mv.from hg6 (by omega) (Nat.le_refl _)))
  have fa1 := ((fa1.mv (Mv.belowF hb6 (Nat.le_refl _))).mv (Mv.from hg6 (by omega) (Nat.le_refl _)))
  have fb1 := ((fb1.mv (Mv.belowF hb6 (Nat.le_refl _))).mv (Mv.from hg6 (by omega) (Nat.le_refl _)))
  have f2 := ((f2.mv (Mv.belowF hb6 (Nat.le_refl _))).mv (Mv.from hg6 (by omega) (Nat.le_refl _)))
  have f3 := ((f3.mv (Mv.belowF hb6 (Nat.le_refl _))).mv (Mv.from hg6 (by omega) (Nat.le_refl _)))
  have f4 := ((f4.mv mov_vote hb6.size (Mv.belowF hb6 (Nat.le_refl _))).mv mov_vote hg6.size (Mv.from hg6 (by omega) (Nat.le_refl _)))
  have f5 := ((f5.mv mov_vote hb6.size (Mv.belowF hb6 (Nat.le_refl _))).mv mov_vote hg6.size (Mv.from hg6 (by omega) (Nat.le_refl _)))
  have f6 := ((f6.mv mov_int (Nat.le_refl _) (Mv.weak (L := w.heap.size + 2) hC)).mv mov_int hg6.size (Mv.from hg6 (by omega) (Nat.le_refl _)))
  have B : Below w.heap.size w wb6 := (below_and B (Nat.le_refl _) hb6).trans (grown_below hg6 (below_and B (Nat.le_refl _) hb6).size (fun k hk => by cases hk; exact Nat.le_refl _))
  have hC := Nat.le_trans hC (Nat.le_trans hb6.size hg6.size)
  clear hG hI rai rbi hb6 hg6 cI
  have hI := (hs.p.mv mov_req B.size (Mv.below B))
  have cI := ra.cell (j := 21) rfl
  have hG := clistReq_any wb6 _ _ hI (hz.picks)
  go_upto_region 9 with (first
    | (go_at_call 60; refine hG.mono ?_; rintro e wa7 ⟨v7, rfl, f7, hb7⟩; have rai := ra.below hb7)
    | (refine wl_set rfl _ _ _ rfl w.heap.size 21 _ rfl rfl _ _ rai (show 21 < 23 by decide) (by kernel_rfl) f7.one ?_; intro wb7 rbi hg7))
  have ra : Row wb7 w.heap.size 48 [.int .i64 m.kind, .int .i64 m.bal.1, .int .i64 m.bal.2, .int .i64 m.slot, .int .i64 m.frm, .int .i64 m.to, .int .i64 m.idx, .int .i64 m.cnt, .int .i64 m.req.1, .int .i64 m.req.2.1, a0, b0, .int .i64 m.oth.1, .int .i64 m.oth.2.1, a1, b1, v2, v3, v4, v5, v6, v7, s.l] := rbi.out
  have rr := (rr.below hb7).grown hg7 (fun h => by injection h; omega)
  have fa0 := ((fa0.mv (Mv.belowF hb7 (Nat.le_refl _))).mv (Mv.from hg7 (by omega) (Nat.le_refl _)))
  have fb0 := ((fb0.mv (Mv.belowF hb7 (Nat.le_refl _))).mv (Mv.from hg7 (by omega) (Nat.le_refl _)))
  have fa1 := ((fa1.mv (Mv.belowF hb7 (Nat.le_refl _))).mv (Mv.from hg7 (by omega) (Nat.le_refl _)))
  have fb1 := ((fb1.mv (Mv.belowF hb7 (Nat.le_refl _))).mv (Mv.from hg7 (by omega) (Nat.le_refl _)))
  have f2 := ((f2.mv (Mv.belowF hb7 (Nat.le_refl _))).mv (Mv.from hg7 (by omega) (Nat.le_refl _)))
  have f3 := ((f3.mv (Mv.belowF hb7 (Nat.le_refl _))).mv (Mv.from hg7 (by omega) (Nat.le_refl _)))
  have f4 := ((f4.mv mov_vote hb7.size (Mv.belowF hb7 (Nat.le_refl _))).mv mov_vote hg7.size (Mv.from hg7 (by omega) (Nat.le_refl _)))
  have f5 := ((f5.mv mov_vote hb7.size (Mv.belowF hb7 (Nat.le_refl _))).mv mov_vote hg7.size (Mv.from hg7 (by omega) (Nat.le_refl _)))
  have f6 := ((f6.mv mov_int hb7.size (Mv.belowF hb7 (Nat.le_refl _))).mv mov_int hg7.size (Mv.from hg7 (by omega) (Nat.le_refl _)))
  have f7 := ((f7.mv mov_req (Nat.le_refl _) (Mv.weak (L := w.heap.size + 2) hC)).mv mov_req hg7.size (Mv.from hg7 (by omega) (Nat.le_refl _)))
  have B : Below w.heap.size w wb7 := (below_and B (Nat.le_refl _) hb7).trans (grown_below hg7 (below_and B (Nat.le_refl _) hb7).size (fun k hk => by cases hk; exact Nat.le_refl _))
  have hC := Nat.le_trans hC (Nat.le_trans hb7.size hg7.size)
  clear hG hI rai rbi hb7 hg7 cI
  have hI := (hs.l.mv mov_rep B.size (Mv.below B))
  have cI := ra.cell (j := 22) rfl
  have hG := clistReport_any wb7 _ _ hI (hz.reps)
  go_upto_region 10 with (first
    | (go_at_call 61; refine hG.mono ?_; rintro e wa8 ⟨v8, rfl, f8, hb8⟩; have rai := ra.below hb8)
    | (refine wl_set rfl _ _ _ rfl w.heap.size 22 _ rfl rfl _ _ rai (show 22 < 23 by decide) (by kernel_rfl) f8.one ?_; intro wb8 rbi hg8))
  have ra : Row wb8 w.heap.size 48 [.int .i64 m.kind, .int .i64 m.bal.1, .int .i64 m.bal.2, .int .i64 m.slot, .int .i64 m.frm, .int .i64 m.to, .int .i64 m.idx, .int .i64 m.cnt, .int .i64 m.req.1, .int .i64 m.req.2.1, a0, b0, .int .i64 m.oth.1, .int .i64 m.oth.2.1, a1, b1, v2, v3, v4, v5, v6, v7, v8] := rbi.out
  have rr := (rr.below hb8).grown hg8 (fun h => by injection h; omega)
  have fa0 := ((fa0.mv (Mv.belowF hb8 (Nat.le_refl _))).mv (Mv.from hg8 (by omega) (Nat.le_refl _)))
  have fb0 := ((fb0.mv (Mv.belowF hb8 (Nat.le_refl _))).mv (Mv.from hg8 (by omega) (Nat.le_refl _)))
  have fa1 := ((fa1.mv (Mv.belowF hb8 (Nat.le_refl _))).mv (Mv.from hg8 (by omega) (Nat.le_refl _)))
  have fb1 := ((fb1.mv (Mv.belowF hb8 (Nat.le_refl _))).mv (Mv.from hg8 (by omega) (Nat.le_refl _)))
  have f2 := ((f2.mv (Mv.belowF hb8 (Nat.le_refl _))).mv (Mv.from hg8 (by omega) (Nat.le_refl _)))
  have f3 := ((f3.mv (Mv.belowF hb8 (Nat.le_refl _))).mv (Mv.from hg8 (by omega) (Nat.le_refl _)))
  have f4 := ((f4.mv mov_vote hb8.size (Mv.belowF hb8 (Nat.le_refl _))).mv mov_vote hg8.size (Mv.from hg8 (by omega) (Nat.le_refl _)))
  have f5 := ((f5.mv mov_vote hb8.size (Mv.belowF hb8 (Nat.le_refl _))).mv mov_vote hg8.size (Mv.from hg8 (by omega) (Nat.le_refl _)))
  have f6 := ((f6.mv mov_int hb8.size (Mv.belowF hb8 (Nat.le_refl _))).mv mov_int hg8.size (Mv.from hg8 (by omega) (Nat.le_refl _)))
  have f7 := ((f7.mv mov_req hb8.size (Mv.belowF hb8 (Nat.le_refl _))).mv mov_req hg8.size (Mv.from hg8 (by omega) (Nat.le_refl _)))
  have f8 := ((f8.mv mov_rep (Nat.le_refl _) (Mv.weak (L := w.heap.size + 2) hC)).mv mov_rep hg8.size (Mv.from hg8 (by omega) (Nat.le_refl _)))
  have B : Below w.heap.size w wb8 := (below_and B (Nat.le_refl _) hb8).trans (grown_below hg8 (below_and B (Nat.le_refl _) hb8).size (fun k hk => by cases hk; exact Nat.le_refl _))
  have hC := Nat.le_trans hC (Nat.le_trans hb8.size hg8.size)
  clear hG hI rai rbi hb8 hg8 cI
  have hone : ∀ v ∈ [.int .i64 m.kind, .int .i64 m.bal.1, .int .i64 m.bal.2, .int .i64 m.slot, .int .i64 m.frm, .int .i64 m.to, .int .i64 m.idx, .int .i64 m.cnt, .int .i64 m.req.1, .int .i64 m.req.2.1, a0, b0, .int .i64 m.oth.1, .int .i64 m.oth.2.1, a1, b1, v2, v3, v4, v5, v6, v7, v8], v.oneCell' = true := by
    intro v hv
    have k_fa0 := fa0.one; have k_fb0 := fb0.one; have k_fa1 := fa1.one; have k_fb1 := fb1.one; have k_f2 := f2.one; have k_f3 := f3.one; have k_f4 := f4.one; have k_f5 := f5.one; have k_f6 := f6.one; have k_f7 := f7.one; have k_f8 := f8.one
    simp only [List.mem_cons, List.not_mem_nil, or_false] at hv
    rcases hv with rfl | rfl | rfl | rfl | rfl | rfl | rfl | rfl | rfl | rfl | rfl | rfl | rfl | rfl | rfl | rfl | rfl | rfl | rfl | rfl | rfl | rfl | rfl <;> first | rfl | assumption
  go_wp2_with (first
    | (refine wl_load rfl _ _ rfl w.heap.size rfl _ _ ra _ Tryd.underlying48 rfl (by kernel_rfl) ?_)
    | (refine wl_store rfl _ _ _ rfl (w.heap.size + 1) [.int .i64 m.kind, .int .i64 m.bal.1, .int .i64 m.bal.2, .int .i64 m.slot, .int .i64 m.frm, .int .i64 m.to, .int .i64 m.idx, .int .i64 m.cnt, .int .i64 m.req.1, .int .i64 m.req.2.1, a0, b0, .int .i64 m.oth.1, .int .i64 m.oth.2.1, a1, b1, v2, v3, v4, v5, v6, v7, v8] rfl rfl _ _ rr rfl (by kernel_rfl) hone ?_; intro w9 rr9 hg9))
  have B9 : Below w.heap.size w w9 := B.trans (grown_below hg9 B.size (fun k hk => by cases hk; omega))
  have fa0 := ((fa0.mv (Mv.from hg9 (by omega) (Nat.le_refl _))).mv (Mv.weak (L := w.heap.size) (by omega)))
  have fb0 := ((fb0.mv (Mv.from hg9 (by omega) (Nat.le_refl _))).mv (Mv.weak (L := w.heap.size) (by omega)))
  have fa1 := ((fa1.mv (Mv.from hg9 (by omega) (Nat.le_refl _))).mv (Mv.weak (L := w.heap.size) (by omega)))
  have fb1 := ((fb1.mv (Mv.from hg9 (by omega) (Nat.le_refl _))).mv (Mv.weak (L := w.heap.size) (by omega)))
  have f2 := ((f2.mv (Mv.from hg9 (by omega) (Nat.le_refl _))).mv (Mv.weak (L := w.heap.size) (by omega)))
  have f3 := ((f3.mv (Mv.from hg9 (by omega) (Nat.le_refl _))).mv (Mv.weak (L := w.heap.size) (by omega)))
  have f4 := ((f4.mv mov_vote hg9.size (Mv.from hg9 (by omega) (Nat.le_refl _))).mv mov_vote (Nat.le_refl _) (Mv.weak (L := w.heap.size) (by omega)))
  have f5 := ((f5.mv mov_vote hg9.size (Mv.from hg9 (by omega) (Nat.le_refl _))).mv mov_vote (Nat.le_refl _) (Mv.weak (L := w.heap.size) (by omega)))
  have f6 := ((f6.mv mov_int hg9.size (Mv.from hg9 (by omega) (Nat.le_refl _))).mv mov_int (Nat.le_refl _) (Mv.weak (L := w.heap.size) (by omega)))
  have f7 := ((f7.mv mov_req hg9.size (Mv.from hg9 (by omega) (Nat.le_refl _))).mv mov_req (Nat.le_refl _) (Mv.weak (L := w.heap.size) (by omega)))
  have f8 := ((f8.mv mov_rep hg9.size (Mv.from hg9 (by omega) (Nat.le_refl _))).mv mov_rep (Nat.le_refl _) (Mv.weak (L := w.heap.size) (by omega)))
  refine bodyPost_ret (v := .agg ([.int .i64 m.kind, .int .i64 m.bal.1, .int .i64 m.bal.2, .int .i64 m.slot, .int .i64 m.frm, .int .i64 m.to, .int .i64 m.idx, .int .i64 m.cnt, .int .i64 m.req.1, .int .i64 m.req.2.1, a0, b0, .int .i64 m.oth.1, .int .i64 m.oth.2.1, a1, b1, v2, v3, v4, v5, v6, v7, v8] : List Value).toArray) (results_cell_row rfl _ _ (w.heap.size + 1) _ _ (0, 0) _ (by rfl) rr9.out Tryd.underlying48 rfl (by kernel_rfl)) rfl ?_
  exact ⟨⟨a0, b0, a1, b1, v2, v3, v4, v5, v6, v7, v8⟩, rfl, ⟨fa0, fb0, fa1, fb1, f2, f3, f4, f5, f6, f7, f8⟩, B9⟩
end Go.Proofs.YtajmgpgjkalfkaaDoor
end

section
set_option linter.unusedVariables false
set_option linter.unusedSimpArgs false
namespace Go.Proofs.YtajmgpgjkalfkaaDoor
open Go.RowKit Oct Kvl

/-- A choice: a request, a signature, whether a conflict was told. -/
def RCh (G : Nat → Prop) (w : World) (v : Value) (r : PReq) (g : List Int) (t : Bool) : Prop :=
  ∃ o p s, v = .agg #[.int .i64 r.1, .int .i64 r.2.1, o, p, s, .bool t] ∧ RT G w o r.2.2.1 ∧ RT G w p r.2.2.2 ∧ RT G w s g
theorem RCh.mv {G G' : Nat → Prop} {w w' : World} {v : Value} {r : PReq} {g : List Int} {t : Bool} (h : RCh G w v r g t) (hm : Mv G G' w w') : RCh G' w' v r g t := by
  obtain ⟨o, p, s, e, h1, h2, h3⟩ := h
  exact ⟨o, p, s, e, h1.mv hm, h2.mv hm, h3.mv hm⟩
/-- A ledger at block b, its map at block m. -/
structure Lg (G : Nat → Prop) (w : World) (b m : Nat) (ls : List PSn) : Prop where
  row : Row w b 64 [.map (some m)]
  ok : OkL ls
  map : ∃ l, Mp w m l ∧ All2 (fun (z : PK × Value) (y : PSn) => z.1 = y.key ∧ RCh G w z.2 y.req y.sig y.told) l ls
/-- Not block m. -/
def NM (m : Nat) : Nat → Prop := fun k => k ≠ m
theorem Lg.ne {G : Nat → Prop} {w : World} {b m : Nat} {ls : List PSn} (h : Lg G w b m ls) : b ≠ m := by
  rintro rfl
  obtain ⟨l, h1, _⟩ := h.map
  have h2 := h.row.cell (j := 0) rfl
  rw [h1.nocell 0] at h2
  cases h2
theorem Lg.mv {G G' : Nat → Prop} {w w' : World} {b m : Nat} {ls : List PSn} (h : Lg G w b m ls) (hb : w'.heap[b]? = w.heap[b]?) (hmb : w'.heap[m]? = w.heap[m]?) (hm : Mv G G' w w') : Lg G' w' b m ls := by
  obtain ⟨l, h1, h2⟩ := h.map
  refine ⟨hb.trans h.row, h.ok, l, ?_, h2.mono fun z y hz => ⟨hz.1, hz.2.mv hm⟩⟩
  obtain ⟨es, clock, h3, h4⟩ := h1
  exact ⟨es, clock, hmb.trans h3, h4⟩
theorem Lg.below {G : Nat → Prop} {w w' : World} {b m : Nat} {ls : List PSn} (h : Lg G w b m ls) (hb : Below w.heap.size w w') : Lg G w' b m ls := by
  obtain ⟨l, h1, h2⟩ := h.map
  exact h.mv (hb.block b h.row.lt) (hb.block m h1.lt) (Mv.belowG hb)
theorem Lg.lt {G : Nat → Prop} {w : World} {b m : Nat} {ls : List PSn} (h : Lg G w b m ls) : b < w.heap.size ∧ m < w.heap.size := by
  obtain ⟨l, h1, h2⟩ := h.map
  exact ⟨h.row.lt, h1.lt⟩
theorem Mv.nm {m : Nat} {G : Nat → Prop} {w w' : World} (hG : ∀ k, G k → k ≠ m) (hg : w.grownBy w' (some m)) : Mv G G w w' := fun k hk hlt => ⟨hg.block k hlt (fun e => hG k hk (by injection e)), hk⟩

theorem newG_any (w : World) : Calls Tryd.prog 9 #[] w fun e w' => e = .returned (.pointer (some ⟨w.heap.size + 1, 0, none⟩)) ∧ Lg (NM w.heap.size) w' (w.heap.size + 1) w.heap.size [] ∧ Below w.heap.size w w' := by
  have hmm := @run_makeMap Tryd.prog
  have hm1 := Mp.made w
  obtain ⟨w1, hw1⟩ : ∃ w1, w1 = w.alloc (.map #[] 0) := ⟨_, rfl⟩
  have hs : w1.heap.size = w.heap.size + 1 := by rw [hw1]; simp
  have hb1 : Below w.heap.size w w1 := by rw [hw1]; exact below_alloc _ _
  rw [← hw1] at hm1
  go_enter Tryd.func9, Tryd.ntmps9
  go_wp2_with fail
  go_ret
  rw [← hw1]
  have hr := Row.new w1 64 [.map (some w.heap.size)]
  rw [hs] at hr
  exact ⟨rfl, ⟨hr, OkL.nil, [], hm1.below (below_alloc _ _), trivial⟩, hb1.alloc hb1.size _⟩

theorem lenG_any {G : Nat → Prop} (w : World) (b m : Nat) (ls : List PSn) (h : Lg G w b m ls) : Calls Tryd.prog 17 #[.pointer (some ⟨b, 0, none⟩)] w fun e w' => e = .returned (.int .i64 (ls.length : Int)) ∧ w' = w := by
  have c0 := h.row.cell (j := 0) rfl
  obtain ⟨l, h1, h2⟩ := h.map
  have hln := h1.len
  rw [h2.len] at hln
  clear h h1 h2
  go_enter Tryd.func17, Tryd.ntmps17
  go_wp2_with fail
  go_ret
  exact ⟨rfl, rfl⟩
end Go.Proofs.YtajmgpgjkalfkaaDoor
end

section
set_option linter.unusedVariables false
set_option linter.unusedSimpArgs false
namespace Go.Proofs.YtajmgpgjkalfkaaDoor
open Go.RowKit Oct Kvl

theorem All2.setR {α β : Type} {R : α → β → Prop} : ∀ {ps : List α} {bs : List β} {j : Nat} {a : α} {b : β}, All2 R ps bs → R a b → All2 R (ps.set j a) (bs.set j b)
  | [], [], j, a, b, _, _ => by simp [All2]
  | x :: ps, y :: bs, 0, a, b, h, hr => ⟨hr, h.2⟩
  | x :: ps, y :: bs, j + 1, a, b, h, hr => ⟨h.1, All2.setR h.2 hr⟩
  | [], _ :: _, _, _, _, h, _ => h.elim
  | _ :: _, [], _, _, _, h, _ => h.elim
theorem keys_of {G : Nat → Prop} {w : World} : ∀ {l : List (PK × Value)} {ls : List PSn}, All2 (fun (z : PK × Value) (y : PSn) => z.1 = y.key ∧ RCh G w z.2 y.req y.sig y.told) l ls → l.map (·.1) = keysL ls
  | [], [], _ => rfl
  | z :: l, y :: ls, h => by
    have := keys_of h.2
    unfold keysL at this ⊢
    simp [h.1.1, this]
  | [], _ :: _, h => h.elim
  | _ :: _, [], h => h.elim

theorem Lg.rowm {G : Nat → Prop} {w w' : World} {b m : Nat} {ls : List PSn} (h : Lg G w b m ls) (hg : w.grownBy w' (some m)) : Row w' b 64 [.map (some m)] :=
  h.row.grown hg fun e => h.ne (Option.some.inj e).symm

set_option maxHeartbeats 1000000 in
theorem keepG_any {G : Nat → Prop} (w : World) (b m : Nat) (ls : List PSn) (h : Lg G w b m ls) (hG : ∀ k, G k → k ≠ m) (q : PK) (hq : fnd q (keysL ls) = none) (v : Value) (r : PReq) (g : List Int) (hv : RCh G w v r g false)
    (hr : tot [r.2.2.1, r.2.2.2] ≤ 2000000) (hg : szT g) :
    Calls Tryd.prog 38 #[.pointer (some ⟨b, 0, none⟩), kv q, v] w fun e w' => e = .returned (.tuple #[]) ∧ Lg G w' b m (meetL ls q r g).1 ∧ w.grownBy w' (some m) := by
  have hok := h.ok.meet q hr hg
  rw [meet_none hq] at hok ⊢
  obtain ⟨o, p, s, rfl, t1, t2, t3⟩ := hv
  obtain ⟨ao, co, rfl, _⟩ := t1.form
  obtain ⟨ap, cp, rfl, _⟩ := t2.form
  obtain ⟨as_, cs, rfl, _⟩ := t3.form
  obtain ⟨k, x, y, sl, i⟩ := q
  obtain ⟨w2, hw2⟩ : ∃ w2, w2 = (w.alloc (.cells #[.int .i64 k, .int .i64 x, .int .i64 y, .int .i64 sl, .int .i64 i] 66)).alloc (.cells #[.int .i64 r.1, .int .i64 r.2.1, .slice ao r.2.2.1.length co, .slice ap r.2.2.2.length cp, .slice as_ g.length cs, .bool false] 73) := ⟨_, rfl⟩
  have ra : Row w2 w.heap.size 66 [.int .i64 k, .int .i64 x, .int .i64 y, .int .i64 sl, .int .i64 i] := by rw [hw2]; exact rowA (Row.new w 66 _) _
  have rb : Row w2 (w.heap.size + 1) 73 [.int .i64 r.1, .int .i64 r.2.1, .slice ao r.2.2.1.length co, .slice ap r.2.2.2.length cp, .slice as_ g.length cs, .bool false] := by
    rw [hw2]
    have := Row.new (w.alloc (.cells #[.int .i64 k, .int .i64 x, .int .i64 y, .int .i64 sl, .int .i64 i] 66)) 73 [.int .i64 r.1, .int .i64 r.2.1, .slice ao r.2.2.1.length co, .slice ap r.2.2.2.length cp, .slice as_ g.length cs, .bool false]
    simpa using this
  have B : Below w.heap.size w w2 := by rw [hw2]; exact ((Below.refl _ w).alloc (Nat.le_refl _) _).alloc (by simp) _
  have h2 := h.below B
  have hL := lenG_any w2 b m ls h2
  have c0 := h2.row.cell (j := 0) rfl
  obtain ⟨l, hl1, hl2⟩ := h2.map
  rw [← keys_of hl2] at hq
  obtain ⟨w3, hput, hp2, hp3⟩ := Mp.put_new (w := w2.drew) hl1 hq (.agg #[.int .i64 r.1, .int .i64 r.2.1, .slice ao r.2.2.1.length co, .slice ap r.2.2.2.length cp, .slice as_ g.length cs, .bool false])
  simp only [kv] at hput ⊢
  by_cases hlen : ls.length < 8192
  · have hd : decide ((ls.length : Int) < 8192) = true := by simp; omega
    simp only [if_pos hlen] at hok ⊢
    go_enter Tryd.func38, Tryd.ntmps38
    go_upto_region 1 with fail
    rw [← hw2]
    clear hw2
    go_upto_region 2 with (go_at_call 17; refine hL.mono ?_; rintro e w2 ⟨rfl, rfl⟩)
    have a0 := ra.cell (j := 0) rfl; have a1 := ra.cell (j := 1) rfl; have a2 := ra.cell (j := 2) rfl; have a3 := ra.cell (j := 3) rfl; have a4 := ra.cell (j := 4) rfl
    have b0 := rb.cell (j := 0) rfl; have b1 := rb.cell (j := 1) rfl; have b2 := rb.cell (j := 2) rfl; have b3 := rb.cell (j := 3) rfl; have b4 := rb.cell (j := 4) rfl; have b5 := rb.cell (j := 5) rfl
    go_region
    go_end0
    have hg3 := grown_drew hp3
    have hmv : Mv G G w2 w3 := Mv.nm hG hg3
    exact ⟨rfl, ⟨h2.rowm hg3, hok, _, hp2, All2.app (hl2.mono fun z y hz => ⟨hz.1, hz.2.mv hmv⟩) ⟨⟨rfl, _, _, _, rfl, (t1.mv (Mv.belowG B)).mv hmv, (t2.mv (Mv.belowG B)).mv hmv, (t3.mv (Mv.belowG B)).mv hmv⟩, trivial⟩⟩,
      grown_trans (grown_of_below B _) hg3 (.inl rfl)⟩
  · have hd : decide ((ls.length : Int) < 8192) = false := by simp; omega
    simp only [if_neg hlen] at hok ⊢
    go_enter Tryd.func38, Tryd.ntmps38
    go_upto_region 1 with fail
    rw [← hw2]
    clear hw2
    go_wp2_with (go_at_call 17; refine hL.mono ?_; rintro e w2 ⟨rfl, rfl⟩)
    go_end0
    exact ⟨rfl, h2, grown_of_below B _⟩
end Go.Proofs.YtajmgpgjkalfkaaDoor
end

section
set_option linter.unusedVariables false
set_option linter.unusedSimpArgs false
namespace Go.Proofs.YtajmgpgjkalfkaaDoor
open Go.RowKit Oct Kvl

def z23 : List Value := [.int .i64 0, .int .i64 0, .int .i64 0, .int .i64 0, .int .i64 0, .int .i64 0, .int .i64 0, .int .i64 0, .int .i64 0, .int .i64 0, .slice none 0 0, .slice none 0 0, .int .i64 0, .int .i64 0, .slice none 0 0, .slice none 0 0, .slice none 0 0, .slice none 0 0, .slice none 0 0, .slice none 0 0, .slice none 0 0, .slice none 0 0, .slice none 0 0]
theorem szQ_of {r : PReq} (h : tot [r.2.2.1, r.2.2.2] ≤ 2000000) : szQ r := by
  unfold szQ szT
  simp only [tot] at h
  omega
theorem ev0_sz {q : PK} {r1 r2 : PReq} {g1 g2 : List Int} (h1 : tot [r1.2.2.1, r1.2.2.2] ≤ 2000000) (h2 : tot [r2.2.2.1, r2.2.2.2] ≤ 2000000) (k1 : szT g1) (k2 : szT g2) : szM (ev0 q r1 g1 r2 g2) :=
  ⟨szQ_of h1, szQ_of h2, k2, k1, ⟨by simp [ev0, zeroM], by simp [ev0, zeroM]⟩, ⟨by simp [ev0, zeroM], by simp [ev0, zeroM]⟩, ⟨by simp [ev0, zeroM], by simp [ev0, zeroM]⟩, ⟨by simp [ev0, zeroM], by simp [ev0, zeroM]⟩, ⟨by simp [ev0, zeroM], by simp [ev0, zeroM]⟩⟩
def svE (o1 p1 s1 o2 p2 s2 : Value) : SV := ⟨o1, p1, o2, p2, s2, s1, .slice none 0 0, .slice none 0 0, .slice none 0 0, .slice none 0 0, .slice none 0 0⟩
theorem ev0_sok {G : Nat → Prop} {w : World} (q : PK) {r1 r2 : PReq} {g1 g2 : List Int} {o1 p1 s1 o2 p2 s2 : Value} (a1 : RT G w o1 r1.2.2.1) (a2 : RT G w p1 r1.2.2.2) (a3 : RT G w s1 g1) (b1 : RT G w o2 r2.2.2.1) (b2 : RT G w p2 r2.2.2.2) (b3 : RT G w s2 g2) :
    SOk G w (ev0 q r1 g1 r2 g2) (svE o1 p1 s1 o2 p2 s2) :=
  ⟨a1, a2, b1, b2, b3, a3, RL.nil _ _ _ _, RL.nil _ _ _ _, RL.nil _ _ _ _, RL.nil _ _ _ _, RL.nil _ _ _ _⟩

set_option maxRecDepth 10000 in
set_option maxHeartbeats 2000000 in
theorem evidenceG_any (w : World) (q : PK) (v1 v2 : Value) (r1 r2 : PReq) (g1 g2 : List Int) (t1 t2 : Bool) (h1 : RCh Any w v1 r1 g1 t1) (h2 : RCh Any w v2 r2 g2 t2) (z1 : tot [r1.2.2.1, r1.2.2.2] ≤ 2000000) (z2 : tot [r2.2.2.1, r2.2.2.2] ≤ 2000000) (k1 : szT g1) (k2 : szT g2) :
    Calls Tryd.prog 40 #[kv q, v1, v2] w fun e w' => ∃ s, e = .returned (.agg (mc (ev0 q r1 g1 r2 g2) s).toArray) ∧ SOk (From w.heap.size) w' (ev0 q r1 g1 r2 g2) s ∧ Below w.heap.size w w' := by
  have hz := ev0_sz (q := q) z1 z2 k1 k2
  obtain ⟨o1, p1, s1, rfl, a1, a2, a3⟩ := h1
  obtain ⟨o2, p2, s2, rfl, b1, b2, b3⟩ := h2
  obtain ⟨ao1, ca1, rfl, _⟩ := a1.form
  obtain ⟨ap1, cp1, rfl, _⟩ := a2.form
  obtain ⟨as1, cs1, rfl, _⟩ := a3.form
  obtain ⟨ao2, ca2, rfl, _⟩ := b1.form
  obtain ⟨ap2, cp2, rfl, _⟩ := b2.form
  obtain ⟨as2, cs2, rfl, _⟩ := b3.form
  obtain ⟨k, x, y, sl, i⟩ := q
  obtain ⟨w1, hw1⟩ : ∃ w1, w1 = w.alloc (.cells #[.int .i64 k, .int .i64 x, .int .i64 y, .int .i64 sl, .int .i64 i] 66) := ⟨_, rfl⟩
  obtain ⟨w2, hw2⟩ : ∃ w2, w2 = w1.alloc (.cells #[.int .i64 r1.1, .int .i64 r1.2.1, .slice ao1 r1.2.2.1.length ca1, .slice ap1 r1.2.2.2.length cp1, .slice as1 g1.length cs1, .bool t1] 73) := ⟨_, rfl⟩
  obtain ⟨w3, hw3⟩ : ∃ w3, w3 = w2.alloc (.cells #[.int .i64 r2.1, .int .i64 r2.2.1, .slice ao2 r2.2.2.1.length ca2, .slice ap2 r2.2.2.2.length cp2, .slice as2 g2.length cs2, .bool t2] 73) := ⟨_, rfl⟩
  obtain ⟨w4, hw4⟩ : ∃ w4, w4 = w3.alloc (.cells #[.int .i64 0, .int .i64 0, .int .i64 0, .int .i64 0, .int .i64 0, .int .i64 0, .int .i64 0, .int .i64 0, .int .i64 0, .int .i64 0, .slice none 0 0, .slice none 0 0, .int .i64 0, .int .i64 0, .slice none 0 0, .slice none 0 0, .slice none 0 0, .slice none 0 0, .slice none 0 0, .slice none 0 0, .slice none 0 0, .slice none 0 0, .slice none 0 0] 48) := ⟨_, rfl⟩
  have e1 : w1.heap.size = w.heap.size + 1 := by rw [hw1]; simp
  have e2 : w2.heap.size = w.heap.size + 2 := by rw [hw2]; simp [e1]
  have e3 : w3.heap.size = w.heap.size + 3 := by rw [hw3]; simp [e2]
  have e4 : w4.heap.size = w.heap.size + 4 := by rw [hw4]; simp [e3]
  have B1 : Below w.heap.size w w1 := by rw [hw1]; exact below_alloc _ _
  have B2 : Below w1.heap.size w1 w2 := by rw [hw2]; exact below_alloc _ _
  have B3 : Below w2.heap.size w2 w3 := by rw [hw3]; exact below_alloc _ _
  have B4 : Below w3.heap.size w3 w4 := by rw [hw4]; exact below_alloc _ _
  have R1 : Row w1 w.heap.size 66 [.int .i64 k, .int .i64 x, .int .i64 y, .int .i64 sl, .int .i64 i] := by rw [hw1]; exact Row.new _ _ _
  have R2 : Row w2 (w.heap.size + 1) 73 [.int .i64 r1.1, .int .i64 r1.2.1, .slice ao1 r1.2.2.1.length ca1, .slice ap1 r1.2.2.2.length cp1, .slice as1 g1.length cs1, .bool t1] := by rw [hw2, ← e1]; exact Row.new _ _ _
  have R3 : Row w3 (w.heap.size + 2) 73 [.int .i64 r2.1, .int .i64 r2.2.1, .slice ao2 r2.2.2.1.length ca2, .slice ap2 r2.2.2.2.length cp2, .slice as2 g2.length cs2, .bool t2] := by rw [hw3, ← e2]; exact Row.new _ _ _
  have R4 : Row w4 (w.heap.size + 3) 48 [.int .i64 0, .int .i64 0, .int .i64 0, .int .i64 0, .int .i64 0, .int .i64 0, .int .i64 0, .int .i64 0, .int .i64 0, .int .i64 0, .slice none 0 0, .slice none 0 0, .int .i64 0, .int .i64 0, .slice none 0 0, .slice none 0 0, .slice none 0 0, .slice none 0 0, .slice none 0 0, .slice none 0 0, .slice none 0 0, .slice none 0 0, .slice none 0 0] := by rw [hw4, ← e3]; exact Row.new _ _ _
  have R1 := ((R1.below B2).below B3).below B4
  have R2 := (R2.below B3).below B4
  have R3 := R3.below B4
  have B : Below w.heap.size w w4 := below_and (below_and (below_and B1 (Nat.le_refl _) B2) (Nat.le_refl _) B3) (Nat.le_refl _) B4
  have hs := ev0_sok (k, x, y, sl, i) (a1.mv (Mv.below B)) (a2.mv (Mv.below B)) (a3.mv (Mv.below B)) (b1.mv (Mv.below B)) (b2.mv (Mv.below B)) (b3.mv (Mv.below B))
  have hC := cloneMsgS_any w4 _ _ hs hz
  clear B1 B2 B3 B4
  have hw : w4 = (((w.alloc (.cells #[.int .i64 k, .int .i64 x, .int .i64 y, .int .i64 sl, .int .i64 i] 66)).alloc (.cells #[.int .i64 r1.1, .int .i64 r1.2.1, .slice ao1 r1.2.2.1.length ca1, .slice ap1 r1.2.2.2.length cp1, .slice as1 g1.length cs1, .bool t1] 73)).alloc (.cells #[.int .i64 r2.1, .int .i64 r2.2.1, .slice ao2 r2.2.2.1.length ca2, .slice ap2 r2.2.2.2.length cp2, .slice as2 g2.length cs2, .bool t2] 73)).alloc (.cells #[.int .i64 0, .int .i64 0, .int .i64 0, .int .i64 0, .int .i64 0, .int .i64 0, .int .i64 0, .int .i64 0, .int .i64 0, .int .i64 0, .slice none 0 0, .slice none 0 0, .int .i64 0, .int .i64 0, .slice none 0 0, .slice none 0 0, .slice none 0 0, .slice none 0 0, .slice none 0 0, .slice none 0 0, .slice none 0 0, .slice none 0 0, .slice none 0 0] 48) := by rw [hw4, hw3, hw2, hw1]
  clear hw1 hw2 hw3 hw4 e1 e2 e3
  simp only [kv]
  go_enter Tryd.func40, Tryd.ntmps40
  go_upto_region 1 with fail
  rw [← hw]
  clear hw
  have k0 := R1.cell (j := 0) rfl; have k3 := R1.cell (j := 3) rfl; have k4 := R1.cell (j := 4) rfl
  have c4 := R2.cell (j := 4) rfl; have d4 := R3.cell (j := 4) rfl
  go_wp2_with (first
    | (refine wl_part rfl _ _ rfl w.heap.size 1 rfl _ _ R1 [.int .i64 x, .int .i64 y] rfl _ Tryd.underlying28 rfl (by kernel_rfl) ?_)
    | (refine wl_part rfl _ _ rfl (w.heap.size + 1) 0 rfl _ _ R2 [.int .i64 r1.1, .int .i64 r1.2.1, .slice ao1 r1.2.2.1.length ca1, .slice ap1 r1.2.2.2.length cp1] rfl _ Tryd.underlying31 rfl (by kernel_rfl) ?_)
    | (refine wl_part rfl _ _ rfl (w.heap.size + 2) 0 rfl _ _ R3 [.int .i64 r2.1, .int .i64 r2.2.1, .slice ao2 r2.2.2.1.length ca2, .slice ap2 r2.2.2.2.length cp2] rfl _ Tryd.underlying31 rfl (by kernel_rfl) ?_)
    | (go_at_call 51; refine hC.mono ?_; rintro e w5 ⟨s5, rfl, h5, b5⟩; have R5 := R4.below b5)
    | (refine wl_store rfl _ _ _ rfl (w.heap.size + 3) (mc (ev0 (k, x, y, sl, i) r1 g1 r2 g2) s5) rfl rfl _ _ R5 rfl (by kernel_rfl) h5.one ?_; intro w6 R6 g6))
  have B5 := below_and B (Nat.le_refl _) b5
  have B6 := B5.trans (grown_below g6 B5.size (fun j hj => by cases hj; omega))
  refine bodyPost_ret (v := .agg (mc (ev0 (k, x, y, sl, i) r1 g1 r2 g2) s5).toArray) (results_cell_row rfl _ _ (w.heap.size + 3) _ _ (0, 0) _ (by rfl) R6.out Tryd.underlying48 rfl (by kernel_rfl)) rfl ?_
  exact ⟨s5, rfl, (h5.mv g6.size (Mv.from g6 (by omega) (Nat.le_refl _))).mv (Nat.le_refl _) (Mv.weak (by omega)), B6⟩
end Go.Proofs.YtajmgpgjkalfkaaDoor
end

section
set_option linter.unusedVariables false
set_option linter.unusedSimpArgs false
namespace Go.Proofs.YtajmgpgjkalfkaaDoor
open Go.RowKit Oct Kvl

/-- What meet answers. -/
def MtP (G : Nat → Prop) (w : World) (b m : Nat) (ls : List PSn) (q : PK) (r : PReq) (g : List Int) (e : Ending) (w' : World) : Prop :=
  (((meetL ls q r g).2 = [] ∧ e = .returned (.tuple #[.agg z23.toArray, .bool false])) ∨ ∃ M s, (meetL ls q r g).2 = [M] ∧ e = .returned (.tuple #[.agg (mc M s).toArray, .bool true]) ∧ SOk (From w.heap.size) w' M s) ∧
    Lg G w' b m (meetL ls q r g).1 ∧ w.grownBy w' (some m)
theorem results_ctG {P : Program} {fn : Func} {p t : Tmp} {ty : TypeId} (h : fn.results = #[.cell p ty, .tmp t]) (tmps : Array Value) (w : World) (g : Nat) (tt : TypeId) (cs : Array Value) (fr : Nat × Nat) (d : TypeDesc)
    (hp : tmps.getD p undef = .pointer (some ⟨g, 0, none⟩)) (hg : w.heap[g]? = some (.cells cs tt fr))
    (hu : P.underlying ty = some d) (hd : (match d with | .struct _ | .array _ _ => true | _ => false) = true) (hi : (P.info? ty).map (·.size) = some cs.size) :
    (results fn tmps).run P w = .ok (.tuple #[.agg cs, tmps.getD t undef]) w := by
  have hp' : tmps[p]?.getD undef = .pointer (some ⟨g, 0, none⟩) := by simpa using hp
  simp [results, h, hp', asAddr, run_loadVar_row w g tt ty cs fr d hg hu hd hi]
theorem z23_one : ∀ v ∈ z23, v.oneCell' = true := by decide
theorem ne_row {m b : Nat} (h : m < b) (j : Nat) : (some m : Option Nat) ≠ some (b + j) := fun e => by have := Option.some.inj e; omega
theorem mv_box {G : Nat → Prop} {B c : Nat} {w w' : World} (hg : w.grownBy w' (some (B + c))) : Mv (fun j => G j ∧ j < B) G w w' := fun j hj hlt => ⟨hg.block j hlt (ne_row hj.2 c), hj.1⟩
theorem mv_boxk {G : Nat → Prop} {B c : Nat} {w w' : World} (hg : w.grownBy w' (some (B + c))) : Mv (fun j => G j ∧ j < B) (fun j => G j ∧ j < B) w w' := fun j hj hlt => ⟨hg.block j hlt (ne_row hj.2 c), hj⟩
theorem grown_box {m c : Nat} {w w1 w2 : World} (h : w.grownBy w1 (some m)) (h' : w1.grownBy w2 (some (w.heap.size + c))) : w.grownBy w2 (some m) := grown_trans h h' (.inr fun k hk => by have := Option.some.inj hk; omega)

set_option maxRecDepth 10000 in
set_option maxHeartbeats 2000000 in
theorem meetG_none {G : Nat → Prop} (w : World) (b m : Nat) (ls : List PSn) (h : Lg G w b m ls) (hG : ∀ k, G k → k ≠ m) (k x y sl i : Int) (hq : fnd (k, x, y, sl, i) (keysL ls) = none) (v : Value) (r : PReq) (g : List Int) (hv : RCh G w v r g false) (hr : tot [r.2.2.1, r.2.2.2] ≤ 2000000) (hg : szT g) :
    Calls Tryd.prog 23 #[.pointer (some ⟨b, 0, none⟩), kv (k, x, y, sl, i), v] w fun e w' => MtP G w b m ls (k, x, y, sl, i) r g e w' := by
  have h := h.mv (G' := fun j => G j ∧ j < w.heap.size) rfl rfl (fun j hj hlt => ⟨rfl, hj, hlt⟩)
  have hv := hv.mv (G' := fun j => G j ∧ j < w.heap.size) (fun j hj hlt => ⟨rfl, hj, hlt⟩)
  have hG' : ∀ j, (G j ∧ j < w.heap.size) → j ≠ m := fun j hj => hG j hj.1
  obtain ⟨o, p, s, rfl, t1, t2, t3⟩ := hv
  obtain ⟨ao, co, rfl, _⟩ := t1.form
  obtain ⟨ap, cp, rfl, _⟩ := t2.form
  obtain ⟨as0, cs0, rfl, _⟩ := t3.form
  obtain ⟨w1, hw1⟩ : ∃ w1, w1 = w.alloc (.cells #[.int .i64 k, .int .i64 x, .int .i64 y, .int .i64 sl, .int .i64 i] 66) := ⟨_, rfl⟩
  obtain ⟨w2, hw2⟩ : ∃ w2, w2 = w1.alloc (.cells #[.int .i64 r.1, .int .i64 r.2.1, .slice ao r.2.2.1.length co, .slice ap r.2.2.2.length cp, .slice as0 g.length cs0, .bool false] 73) := ⟨_, rfl⟩
  obtain ⟨w3, hw3⟩ : ∃ w3, w3 = w2.alloc (.cells #[.int .i64 0, .int .i64 0, .int .i64 0, .int .i64 0, .int .i64 0, .int .i64 0, .int .i64 0, .int .i64 0, .int .i64 0, .int .i64 0, .slice none 0 0, .slice none 0 0, .int .i64 0, .int .i64 0, .slice none 0 0, .slice none 0 0, .slice none 0 0, .slice none 0 0, .slice none 0 0, .slice none 0 0, .slice none 0 0, .slice none 0 0, .slice none 0 0] 48) := ⟨_, rfl⟩
  have e1 : w1.heap.size = w.heap.size + 1 := by rw [hw1]; simp
  have e2 : w2.heap.size = w.heap.size + 2 := by rw [hw2]; simp [e1]
  have e3 : w3.heap.size = w.heap.size + 3 := by rw [hw3]; simp [e2]
  have B1 : Below w.heap.size w w1 := by rw [hw1]; exact below_alloc _ _
  have B2 : Below w1.heap.size w1 w2 := by rw [hw2]; exact below_alloc _ _
  have B3 : Below w2.heap.size w2 w3 := by rw [hw3]; exact below_alloc _ _
  have R1 : Row w1 w.heap.size 66 [.int .i64 k, .int .i64 x, .int .i64 y, .int .i64 sl, .int .i64 i] := by rw [hw1]; exact Row.new _ _ _
  have R2 : Row w2 (w.heap.size + 1) 73 [.int .i64 r.1, .int .i64 r.2.1, .slice ao r.2.2.1.length co, .slice ap r.2.2.2.length cp, .slice as0 g.length cs0, .bool false] := by rw [hw2, ← e1]; exact Row.new _ _ _
  have R3 : Row w3 (w.heap.size + 2) 48 [.int .i64 0, .int .i64 0, .int .i64 0, .int .i64 0, .int .i64 0, .int .i64 0, .int .i64 0, .int .i64 0, .int .i64 0, .int .i64 0, .slice none 0 0, .slice none 0 0, .int .i64 0, .int .i64 0, .slice none 0 0, .slice none 0 0, .slice none 0 0, .slice none 0 0, .slice none 0 0, .slice none 0 0, .slice none 0 0, .slice none 0 0, .slice none 0 0] := by rw [hw3, ← e2]; exact Row.new _ _ _
  have R1 := (R1.below B2).below B3
  have R2 := R2.below B3
  have B : Below w.heap.size w w3 := below_and (below_and B1 (Nat.le_refl _) B2) (Nat.le_refl _) B3
  have hw : w3 = ((w.alloc (.cells #[.int .i64 k, .int .i64 x, .int .i64 y, .int .i64 sl, .int .i64 i] 66)).alloc (.cells #[.int .i64 r.1, .int .i64 r.2.1, .slice ao r.2.2.1.length co, .slice ap r.2.2.2.length cp, .slice as0 g.length cs0, .bool false] 73)).alloc (.cells #[.int .i64 0, .int .i64 0, .int .i64 0, .int .i64 0, .int .i64 0, .int .i64 0, .int .i64 0, .int .i64 0, .int .i64 0, .int .i64 0, .slice none 0 0, .slice none 0 0, .int .i64 0, .int .i64 0, .slice none 0 0, .slice none 0 0, .slice none 0 0, .slice none 0 0, .slice none 0 0, .slice none 0 0, .slice none 0 0, .slice none 0 0, .slice none 0 0] 48) := by rw [hw3, hw2, hw1]
  clear hw1 hw2 hw3 e1 e2 B1 B2 B3
  have h3 := h.below B
  have c0 := h3.row.cell (j := 0) rfl
  have hm := h.lt.2
  have hb := h.lt.1
  obtain ⟨l, hl1, hl2⟩ := h3.map
  have hq' := hq
  rw [← keys_of hl2] at hq'
  have hlk := Mp.look_none (w := w3.drew) hl1 hq'
  have hlk2 := Mp.look_none (w := (w3.alloc (.cells #[.int .i64 0, .int .i64 0, .slice none 0 0, .slice none 0 0, .slice none 0 0, .bool false] 73)).drew) (show Mp _ _ _ from hl1.below (w' := w3.alloc _) (below_alloc _ _)) hq'
  simp only [kv] at hlk hlk2 ⊢
  go_enter Tryd.func23, Tryd.ntmps23
  go_upto_region 1 with fail
  rw [← hw]
  clear hw
  have a0 := R1.cell (j := 0) rfl; have a1 := R1.cell (j := 1) rfl; have a2 := R1.cell (j := 2) rfl; have a3 := R1.cell (j := 3) rfl; have a4 := R1.cell (j := 4) rfl
  have Bz := below_alloc w3 (.cells #[.int .i64 0, .int .i64 0, .slice none 0 0, .slice none 0 0, .slice none 0 0, .bool false] 73)
  have cz0 := (h3.row.below Bz).cell (j := 0) rfl
  have R1z := R1.below Bz
  have Rz := Row.new w3 73 [.int .i64 0, .int .i64 0, .slice none 0 0, .slice none 0 0, .slice none 0 0, .bool false]
  have RO := Row.new w3 73 [.int .i64 0, .int .i64 0, .slice none 0 0, .slice none 0 0, .slice none 0 0, .bool false]
  have az0 := R1z.cell (j := 0) rfl; have az1 := R1z.cell (j := 1) rfl; have az2 := R1z.cell (j := 2) rfl; have az3 := R1z.cell (j := 3) rfl; have az4 := R1z.cell (j := 4) rfl
  have z0 := Rz.cell (j := 0) rfl; have z1 := Rz.cell (j := 1) rfl; have z2 := Rz.cell (j := 2) rfl; have z3 := Rz.cell (j := 3) rfl; have z4 := Rz.cell (j := 4) rfl; have z5 := Rz.cell (j := 5) rfl
  have fz := Rz.frozen
  try go_simp
  go_cut [8, 9] from 11 (fun s8 s9 wx => s8 = .pointer (some ⟨w.heap.size + 3, 0, none⟩) ∧ s9 = .bool false ∧ Below w3.heap.size w3 wx ∧ Row wx (w.heap.size + 3) 73 [.int .i64 0, .int .i64 0, .slice none 0 0, .slice none 0 0, .slice none 0 0, .bool false])
  case first =>
    go_region
    all_goals (
      go_wp2_with fail
      go_meet
      case rel => exact ⟨rfl, rfl, Below.drew (below_alloc _ _), by rw [← e3]; exact RO⟩)
  case rest =>
  clear a0 a1 a2 a3 a4 az0 az1 az2 az3 az4 z0 z1 z2 z3 z4 z5 fz Rz RO R1z cz0 Bz hlk hlk2
  obtain ⟨rfl, rfl, Bc, Rc⟩ := hcut
  have hc := h3.below Bc
  have R1c := R1.below Bc
  have R2c := R2.below Bc
  have R3c := R3.below Bc
  have BC := below_and B (Nat.le_refl _) Bc
  have hK := keepG_any wc b m ls hc hG' (k, x, y, sl, i) hq (.agg #[.int .i64 r.1, .int .i64 r.2.1, .slice ao r.2.2.1.length co, .slice ap r.2.2.2.length cp, .slice as0 g.length cs0, .bool false]) r g ⟨_, _, _, rfl, t1.mv (Mv.belowG BC), t2.mv (Mv.belowG BC), t3.mv (Mv.belowG BC)⟩ hr hg
  simp only [kv] at hK
  go_wp2_with (first
    | (refine wl_load rfl _ _ rfl w.heap.size rfl _ _ R1c _ Tryd.underlying66 rfl (by kernel_rfl) ?_)
    | (refine wl_load rfl _ _ rfl (w.heap.size + 1) rfl _ _ R2c _ Tryd.underlying73 rfl (by kernel_rfl) ?_)
    | (go_at_call 38; refine hK.mono ?_; rintro e w5 ⟨rfl, h5, g5⟩; have R5 := R3c.grown g5 (ne_row hm 2))
    | (refine wl_store rfl _ _ _ rfl (w.heap.size + 2) [.int .i64 0, .int .i64 0, .int .i64 0, .int .i64 0, .int .i64 0, .int .i64 0, .int .i64 0, .int .i64 0, .int .i64 0, .int .i64 0, .slice none 0 0, .slice none 0 0, .int .i64 0, .int .i64 0, .slice none 0 0, .slice none 0 0, .slice none 0 0, .slice none 0 0, .slice none 0 0, .slice none 0 0, .slice none 0 0, .slice none 0 0, .slice none 0 0] rfl rfl _ _ R5 rfl (by kernel_rfl) z23_one ?_; intro w6 R6 g6))
  refine bodyPost_ret (results_ctG rfl _ _ (w.heap.size + 2) _ _ (0, 0) _ (by rfl) R6.out Tryd.underlying48 rfl (by kernel_rfl)) rfl ?_
  have h6 : Lg G w6 b m (meetL ls (k, x, y, sl, i) r g).1 := h5.mv (g6.block b h5.lt.1 (ne_row hb 2)) (g6.block m h5.lt.2 (ne_row hm 2)) (mv_box g6)
  exact ⟨.inl ⟨by rw [meet_none hq], rfl⟩, h6, grown_box (grown_trans (grown_of_below BC _) g5 (.inl rfl)) g6⟩
end Go.Proofs.YtajmgpgjkalfkaaDoor
end
