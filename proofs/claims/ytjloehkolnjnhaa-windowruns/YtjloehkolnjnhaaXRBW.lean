/- The document's windows: Preps. Written by mk19l.py. -/
import Derived.Test.YtjloehkolnjnhaaXRBT
set_option linter.unusedSimpArgs false
set_option linter.unusedVariables false
namespace Go.Proofs.Ytjloehkolnjnhaa
open Go.RowKit Oct Kvl Bal
set_option maxRecDepth 10000 in
set_option maxHeartbeats 4000000 in
theorem prepsD_any (w : World) (cs : List Value) (low : Int) (sls : List PSl) (h : RDw Any w cs low sls) : Calls Try.prog 19 #[.agg cs.toArray] w fun e w' => ∃ v, e = .returned v ∧ RL RPrep 8 Any w' v (prepsD low sls 16) ∧ Below w.heap.size w w' := by
  obtain ⟨rows, rfl, hrl, h368, hat⟩ := h.rowsW
  have hlow := h.1
  obtain ⟨w1, hw1⟩ : ∃ u, u = w.alloc (.cells (.int .i64 low :: rows.flatten).toArray 36) := ⟨_, rfl⟩
  have e1 : w1.heap.size = w.heap.size + 1 := by rw [hw1]; simp
  have B1 : Below w.heap.size w w1 := by rw [hw1]; exact below_alloc _ _
  have R1 : Row w1 w.heap.size 36 (.int .i64 low :: rows.flatten) := by rw [hw1]; exact Row.new _ _ _
  obtain ⟨w2, hw2⟩ : ∃ u, u = w1.alloc (.cells #[] 39) := ⟨_, rfl⟩
  have B2 : Below w1.heap.size w1 w2 := by rw [hw2]; exact below_alloc _ _
  have hL2 := LB.fresh (RPc w) 39 8 w1.heap.size w1 (Nat.le_refl _)
  rw [← hw2] at hL2
  have HAT := (show Hid (∀ q, q < 16 → ∃ r, rows[q]? = some r ∧ RSl Any w r (slD sls q)) from hat)
  have HIX := (show Hid (∀ {q : Nat} {r : List Value}, rows[q]? = some r → q < 16 → ∀ (w : World), (Instr.index 34 (.agg rows.flatten.toArray) (.int .i64 (q : Int))).run Try.prog w = .ok (.agg r.toArray) w) from fun hq h16 w => idx_slot rows hrl hq h16 w)
  clear hat h hrl
  go_enter Try.func19, Try.ntmps19
  go_upto_region 1 with fail
  rw [← hw1]
  clear hw1
  go_upto_region 2 with fail
  rw [← hw2]
  clear hw2
  have R2 := R1.below B2
  have BW2 := below_and B1 (Nat.le_refl _) B2
  clear R1 B1
  have hN : w1.heap.size ≤ w2.heap.size := B2.size
  rw [e1] at hL2 hN
  clear e1 B2 w1
  go_upto_region 3 with (refine wl_part rfl _ _ rfl w.heap.size 1 rfl _ _ R2 rows.flatten (by exact List.take_length) _ Try.underlying34 rfl (by rw [h368]; kernel_rfl) ?_)
  go_loopw [3, 9] (fun l j wr => ∃ q : Nat, q ≤ 16 ∧ j = .int .i64 q ∧ LB (RPc w) 39 8 (w.heap.size + 1) wr l (prepsD low sls q) ∧ (prepsD low sls q).length ≤ q ∧ Below (w.heap.size + 1) w2 wr) (fun _ j _ => 16 - (intOf j).toNat)
  case atStart => exact ⟨0, by omega, rfl, hL2, by simp [prepsD], Below.refl _ _⟩
  case round =>
    obtain ⟨q, hq, rfl, hL, hll, hB⟩ := hrel
    obtain ⟨la, lc, rfl⟩ := hL.fmL
    by_cases hql : q < 16
    case neg =>
      obtain rfl : q = 16 := by omega
      go_wp2_with fail
      go_ret
      have hBB := BW2.trans (hB.mono (Nat.le_succ _))
      exact ⟨_, rfl, hL.rlPc hBB, hBB⟩
    obtain ⟨r, hr, hsl⟩ := HAT.out q hql
    have hix := HIX.out hr hql
    have hd16 : decide ((q : Int) < 16) = true := by simp; omega
    have hrow0 := Row.new wr 33 [.int .i64 0, .int .i64 0, .int .i64 0, .int .i64 0, .slice none 0 0, .slice none 0 0, .int .i64 0, .int .i64 0, .int .i64 0, .int .i64 0, .slice none 0 0, .slice none 0 0, .slice none 0 0, .int .i64 0, .int .i64 0, .slice none 0 0, .slice none 0 0, .int .i64 0, .int .i64 0, .slice none 0 0, .bool false, .bool false, .bool false]
    have hone := one_RSl hsl
    have hlen := hsl.len
    have hi23 : (Try.prog.info? 33).map (·.size) = some r.length := by rw [hlen]; kernel_rfl
    clear hr
    go_upto_region 5 with (refine wl_store rfl _ _ _ rfl wr.heap.size r rfl rfl _ _ hrow0 (by rw [hlen]; rfl) hi23 hone ?_; intro w5 r5 g5)
    have b5 : Below wr.heap.size wr w5 := (below_alloc wr (.cells ([.int .i64 0, .int .i64 0, .int .i64 0, .int .i64 0, .slice none 0 0, .slice none 0 0, .int .i64 0, .int .i64 0, .int .i64 0, .int .i64 0, .slice none 0 0, .slice none 0 0, .slice none 0 0, .int .i64 0, .int .i64 0, .slice none 0 0, .slice none 0 0, .int .i64 0, .int .i64 0, .slice none 0 0, .bool false, .bool false, .bool false] : List Value).toArray 33)).trans (grown_below g5 (by simp) (fun k hk => by cases hk; exact Nat.le_refl _))
    have r5 := r5.out
    have hL5 := hL.below (mov_pc w) b5
    have hB5 := below_and hB hN b5
    have R5 : Row w5 w.heap.size 36 (.int .i64 low :: rows.flatten) := (hB5.block w.heap.size (by omega)).trans R2
    have BW5 := BW2.trans (hB5.mono (Nat.le_succ _))
    obtain ⟨cS, hcS⟩ : ∃ c, c = wr.heap.size := ⟨_, rfl⟩
    rw [← hcS] at r5 ⊢
    clear hrow0 g5 hcS hL hB b5 hone hd16 hix
    have hwr1 : wrap64 (low + 1) = low + 1 := IntWalk.wrap64_in _ ⟨by omega, by omega⟩
    have hwr2 : wrap64 (low + 1 + (q : Int)) = low + 1 + (q : Int) := IntWalk.wrap64_in _ ⟨by omega, by omega⟩
    have hwr3 : wrap64 ((q : Int) + 1) = (q : Int) + 1 := IntWalk.wrap64_in _ ⟨by omega, by omega⟩
    obtain ⟨o1, g1, o2, g2, c1, o3, g3, v1, rfl, t1, t2, t3, t4, t5, t6, t7, t8⟩ := hsl
    have hst := prepsD_step low sls q
    obtain ⟨ao, co, rfl, _⟩ := t3.form
    obtain ⟨ag, cg, rfl, _⟩ := t4.form
    obtain ⟨ac, cc, rfl, _⟩ := t5.form
    have k21 := r5.cell (j := 21) rfl
    go_upto_if 14 with fail
    have hL6 := hL5
    have hB6 := hB5
    have R6 := R5
    have hc0 := R6.cell (j := 0) rfl
    clear R5 hL5 k21
    cases hkn : (slD sls q).hp with
    | false =>
      rw [hkn] at hst
      rw [if_neg (by decide)] at hst
      have HST := (show Hid (_ = _) from hst)
      clear hst
      go_wp2_with fail
      go_roundw
      case rel => exact ⟨q + 1, by omega, by go_num, by rw [HST.out]; exact hL6, by rw [HST.out]; omega, hB6⟩
      case measure => simp [intOf]; omega
    | true =>
      rw [hkn] at hst
      rw [if_pos rfl] at hst
      have HST := (show Hid (_ = _) from hst)
      clear hst
      have hLlt := hL6.lt
      have hBN : w.heap.size + 1 ≤ w5.heap.size := Nat.le_trans hN hB6.size
      have hbnd : ((prepsD low sls q).length + 1) * 112 ≤ 140737488355328 := by omega
      have k12 := r5.cell (j := 12) rfl
      have hone8 : ∀ u ∈ ([.int .i64 (low + 1 + (q : Int)), .int .i64 (slD sls q).pred.1, .int .i64 (slD sls q).pred.2, .int .i64 (slD sls q).prep.1, .int .i64 (slD sls q).prep.2.1, .slice ao (slD sls q).prep.2.2.1.length co, .slice ag (slD sls q).prep.2.2.2.length cg, .slice ac (slD sls q).cert.length cc] : List Value), u.oneCell' = true := by
        intro u hu
        simp only [List.mem_cons, List.not_mem_nil, or_false] at hu
        rcases hu with rfl | rfl | rfl | rfl | rfl | rfl | rfl | rfl <;> rfl
      have HT := (show Hid (RPrep Any w [.int .i64 (low + 1 + (q : Int)), .int .i64 (slD sls q).pred.1, .int .i64 (slD sls q).pred.2, .int .i64 (slD sls q).prep.1, .int .i64 (slD sls q).prep.2.1, .slice ao (slD sls q).prep.2.2.1.length co, .slice ag (slD sls q).prep.2.2.2.length cg, .slice ac (slD sls q).cert.length cc] (low + 1 + (q : Int), (slD sls q).pred, (slD sls q).prep, (slD sls q).cert)) from ⟨_, _, _, rfl, t3, t4, t5⟩)
      clear t1 t2 t3 t4 t5 t6 t7 t8
      go_wp2_with (first
        | (refine wl_part rfl _ _ rfl cS 6 rfl _ _ r5 [.int .i64 (slD sls q).pred.1, .int .i64 (slD sls q).pred.2] rfl _ Try.underlying27 rfl (by kernel_rfl) ?_)
        | (refine wl_part rfl _ _ rfl cS 8 rfl _ _ r5 [.int .i64 (slD sls q).prep.1, .int .i64 (slD sls q).prep.2.1, .slice ao (slD sls q).prep.2.2.1.length co, .slice ag (slD sls q).prep.2.2.2.length cg] rfl _ Try.underlying30 rfl (by kernel_rfl) ?_)
        | (at_builtin; go_loud (refine wl_pushS (mov_pc w) rfl _ _ _ rfl 39 8 112 _ Try.underlying54 Try.infPrepW rfl (by decide) (w.heap.size + 1) _ _ rfl hL6 [.int .i64 (low + 1 + (q : Int)), .int .i64 (slD sls q).pred.1, .int .i64 (slD sls q).pred.2, .int .i64 (slD sls q).prep.1, .int .i64 (slD sls q).prep.2.1, .slice ao (slD sls q).prep.2.2.1.length co, .slice ag (slD sls q).prep.2.2.2.length cg, .slice ac (slD sls q).cert.length cc] (low + 1 + (q : Int), (slD sls q).pred, (slD sls q).prep, (slD sls q).cert) w5.heap.size HT.out rfl hone8 hBN hLlt rfl hBN hbnd (by decide) ?_; intro v7 w7 hL7 g7 hS7)))
      have hB7 := hB6.trans (grown_below g7 (Nat.le_trans hN hB6.size) (fun k hk => by have := hL6.fr k hk; omega))
      go_roundw
      case rel => exact ⟨q + 1, by omega, by go_num, by rw [HST.out]; exact hL7, by rw [HST.out]; simp; omega, hB7⟩
      case measure => simp [intOf]; omega
end Go.Proofs.Ytjloehkolnjnhaa
