/- The document's windows: List. Written by mk19l.py. -/
import Derived.Test.YtjloehkolnjnhaaXRBT
set_option linter.unusedSimpArgs false
set_option linter.unusedVariables false
namespace Go.Proofs.Ytjloehkolnjnhaa
open Go.RowKit Oct Kvl Bal
theorem Try.infIntL : (Try.prog.info? 3).map (fun i => (i.zero, i.size, i.bytes)) = some (some (.int .i64 0), 1, 8) := by kernel_rfl
set_option maxRecDepth 10000 in
set_option maxHeartbeats 4000000 in
theorem listD_any (w : World) (cs : List Value) (low : Int) (sls : List PSl) (h : RDw Any w cs low sls) : Calls Try.prog 17 #[.agg cs.toArray] w fun e w' => ∃ v, e = .returned v ∧ RL RInt 1 Any w' v (listD low sls 16) ∧ Below w.heap.size w w' := by
  obtain ⟨rows, rfl, hrl, h368, hat⟩ := h.rowsW
  have hlow := h.1
  obtain ⟨w1, hw1⟩ : ∃ u, u = w.alloc (.cells (.int .i64 low :: rows.flatten).toArray 36) := ⟨_, rfl⟩
  have e1 : w1.heap.size = w.heap.size + 1 := by rw [hw1]; simp
  have B1 : Below w.heap.size w w1 := by rw [hw1]; exact below_alloc _ _
  have R1 : Row w1 w.heap.size 36 (.int .i64 low :: rows.flatten) := by rw [hw1]; exact Row.new _ _ _
  obtain ⟨w2, hw2⟩ : ∃ u, u = w1.alloc (.cells #[] 3) := ⟨_, rfl⟩
  have B2 : Below w1.heap.size w1 w2 := by rw [hw2]; exact below_alloc _ _
  have hL2 := LB.fresh RInt 3 1 w1.heap.size w1 (Nat.le_refl _)
  rw [← hw2] at hL2
  have HAT := (show Hid (∀ q, q < 16 → ∃ r, rows[q]? = some r ∧ RSl Any w r (slD sls q)) from hat)
  have HIX := (show Hid (∀ {q : Nat} {r : List Value}, rows[q]? = some r → q < 16 → ∀ (w : World), (Instr.index 34 (.agg rows.flatten.toArray) (.int .i64 (q : Int))).run Try.prog w = .ok (.agg r.toArray) w) from fun hq h16 w => idx_slot rows hrl hq h16 w)
  clear hat h hrl
  go_enter Try.func17, Try.ntmps17
  go_upto_region 1 with fail
  rw [← hw1]
  clear hw1
  go_upto_region 2 with fail
  rw [← hw2]
  clear hw2
  have R2 := R1.below B2
  have BW2 := below_and B1 (Nat.le_refl _) B2
  clear R1 B1
  have hN : w1.heap.size ≤ w2.heap.size := B2.size
  rw [e1] at hL2 hN
  clear e1 B2 w1
  go_upto_region 3 with (refine wl_part rfl _ _ rfl w.heap.size 1 rfl _ _ R2 rows.flatten (by exact List.take_length) _ Try.underlying34 rfl (by rw [h368]; kernel_rfl) ?_)
  go_loopw [3, 9] (fun l j wr => ∃ q : Nat, q ≤ 16 ∧ j = .int .i64 q ∧ LB RInt 3 1 (w.heap.size + 1) wr l (listD low sls q) ∧ (listD low sls q).length ≤ q ∧ Below (w.heap.size + 1) w2 wr) (fun _ j _ => 16 - (intOf j).toNat)
  case atStart => exact ⟨0, by omega, rfl, hL2, by simp [listD], Below.refl _ _⟩
  case round =>
    obtain ⟨q, hq, rfl, hL, hll, hB⟩ := hrel
    obtain ⟨la, lc, rfl⟩ := hL.fmL
    by_cases hql : q < 16
    case neg =>
      obtain rfl : q = 16 := by omega
      go_wp2_with fail
      go_ret
      exact ⟨_, rfl, (hL.rl mov_int).mv mov_int (Nat.le_refl _) Mv.any, BW2.trans (hB.mono (Nat.le_succ _))⟩
    obtain ⟨r, hr, hsl⟩ := HAT.out q hql
    have hix := HIX.out hr hql
    have hd16 : decide ((q : Int) < 16) = true := by simp; omega
    have hrow0 := Row.new wr 33 [.int .i64 0, .int .i64 0, .int .i64 0, .int .i64 0, .slice none 0 0, .slice none 0 0, .int .i64 0, .int .i64 0, .int .i64 0, .int .i64 0, .slice none 0 0, .slice none 0 0, .slice none 0 0, .int .i64 0, .int .i64 0, .slice none 0 0, .slice none 0 0, .int .i64 0, .int .i64 0, .slice none 0 0, .bool false, .bool false, .bool false]
    have hone := one_RSl hsl
    have hlen := hsl.len
    have hi23 : (Try.prog.info? 33).map (·.size) = some r.length := by rw [hlen]; kernel_rfl
    clear hr
    go_upto_region 5 with (refine wl_store rfl _ _ _ rfl wr.heap.size r rfl rfl _ _ hrow0 (by rw [hlen]; rfl) hi23 hone ?_; intro w5 r5 g5)
    have b5 : Below wr.heap.size wr w5 := (below_alloc wr (.cells ([.int .i64 0, .int .i64 0, .int .i64 0, .int .i64 0, .slice none 0 0, .slice none 0 0, .int .i64 0, .int .i64 0, .int .i64 0, .int .i64 0, .slice none 0 0, .slice none 0 0, .slice none 0 0, .int .i64 0, .int .i64 0, .slice none 0 0, .slice none 0 0, .int .i64 0, .int .i64 0, .slice none 0 0, .bool false, .bool false, .bool false] : List Value).toArray 33)).trans (grown_below g5 (by simp) (fun k hk => by cases hk; exact Nat.le_refl _))
    have r5 := r5.out
    have hL5 := hL.below mov_int b5
    have hB5 := below_and hB hN b5
    have R5 : Row w5 w.heap.size 36 (.int .i64 low :: rows.flatten) := (hB5.block w.heap.size (by omega)).trans R2
    have BW5 := BW2.trans (hB5.mono (Nat.le_succ _))
    obtain ⟨cS, hcS⟩ : ∃ c, c = wr.heap.size := ⟨_, rfl⟩
    rw [← hcS] at r5 ⊢
    clear hrow0 g5 hcS hL hB b5 hone hd16 hix
    have hwr1 : wrap64 (low + 1) = low + 1 := IntWalk.wrap64_in _ ⟨by omega, by omega⟩
    have hwr2 : wrap64 (low + 1 + (q : Int)) = low + 1 + (q : Int) := IntWalk.wrap64_in _ ⟨by omega, by omega⟩
    have hwr3 : wrap64 ((q : Int) + 1) = (q : Int) + 1 := IntWalk.wrap64_in _ ⟨by omega, by omega⟩
    have hK := knownD_any w5 r (slD sls q) (mov_sl _ _ _ _ _ _ hsl BW5.size (Mv.below BW5))
    have hst := listD_step low sls q
    go_upto_if 14 with (first
      | (refine wl_load rfl _ _ rfl cS rfl _ _ r5 _ Try.underlying33 rfl hi23 ?_)
      | (go_at_call 37; refine hK.mono ?_; rintro e w6 ⟨rfl, b6⟩))
    have hL6 := hL5.below mov_int b6
    have hB6 := below_and hB5 hN b6
    have R6 := R5.below b6
    have hc0 := R6.cell (j := 0) rfl
    clear hK r5 R5 hL5 b6
    cases hkn : known (slD sls q) with
    | false =>
      rw [hkn] at hst
      rw [if_neg (by decide)] at hst
      have HST := (show Hid (_ = _) from hst)
      clear hst
      go_wp2_with fail
      go_roundw
      case rel => exact ⟨q + 1, by omega, by go_num, by rw [HST.out]; exact hL6, by rw [HST.out]; omega, hB6⟩
      case measure => simp [intOf]; omega
    | true =>
      rw [hkn] at hst
      rw [if_pos rfl] at hst
      have HST := (show Hid (_ = _) from hst)
      clear hst
      have hLlt := hL6.lt
      have hBN : w.heap.size + 1 ≤ w6.heap.size := Nat.le_trans hN hB6.size
      have hbnd : ((listD low sls q).length + 1) * 8 ≤ 140737488355328 := by omega
      go_wp2_with (at_builtin; go_loud (refine wl_pushS mov_int rfl _ _ _ rfl 3 1 8 _ Try.underlying51 Try.infIntL rfl (by decide) (w.heap.size + 1) _ _ rfl hL6 [.int .i64 (low + 1 + (q : Int))] (low + 1 + (q : Int)) w6.heap.size rfl rfl (fun u hu => by simp at hu; subst hu; rfl) hBN hLlt rfl hBN hbnd (by decide) ?_; intro v7 w7 hL7 g7 hS7))
      have hB7 := hB6.trans (grown_below g7 (Nat.le_trans hN hB6.size) (fun k hk => by have := hL6.fr k hk; omega))
      go_roundw
      case rel => exact ⟨q + 1, by omega, by go_num, by rw [HST.out]; exact hL7, by rw [HST.out]; simp; omega, hB7⟩
      case measure => simp [intOf]; omega
end Go.Proofs.Ytjloehkolnjnhaa
