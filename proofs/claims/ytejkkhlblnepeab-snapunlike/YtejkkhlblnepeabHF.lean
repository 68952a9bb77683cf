/- The document's Holder, told, Same of leases. -/
import Derived.Test.YtejkkhlblnepeabHD
import Derived.Test.YtejkkhlblnepeabKm
import Derived.Test.YtejkkhlblnepeabKo
import Derived.Test.YtejkkhlblnepeabHC
import Derived.Test.YtejkkhlblnepeabW2
import Derived.BigQuiet
import Derived.Deep.QuietTactic
section
set_option linter.unusedVariables false
set_option linter.unusedSimpArgs false
namespace Go.Proofs.Ytejkkhlblnepeab
open Go.RowKit Oct Kvl

theorem aliveS1 : doS [] (5, [97], [], [], 3) 1 5 = ([([97], [1, 8])], 0, []) := by decide
theorem aliveS2 : doS [([97], [1, 8])] (5, [97], [], [], 3) 2 7 = ([([97], [1, 8])], 4, [1, 1]) := by decide
theorem aliveS3 : doS [([97], [1, 8])] (5, [97], [], [], 3) 2 8 = ([([97], [2, 11])], 0, []) := by decide
/-- One lease alone. -/
theorem LB.one {B : Nat} {w : World} {v : Value} {n : List Int} {p q : Int} (h : LB OLea 45 3 B w v [(n, [p, q])]) : ∃ g cap, v = .slice (some ⟨g, 0, none⟩) 1 cap ∧ 1 ≤ cap ∧ cap ≤ maxLen ∧ ∀ u, Below w.heap.size w u → u.cell? ⟨g, 1, none⟩ = some (.int .i64 p) ∧ u.cell? ⟨g, 2, none⟩ = some (.int .i64 q) := by
  obtain ⟨g, cap, cur, rows, e, k1, k2, k3, k4, k5, k6, k7, k8, k9⟩ := h.opnS (by simp)
  obtain ⟨rp, hrp⟩ : ∃ rp, rows[0]? = some rp := ⟨_, List.getElem?_eq_getElem (by simp at k6; omega)⟩
  obtain ⟨sa, p1, q1, rfl, o1, hu⟩ := k9.get hrp (rfl : [(n, [p, q])][0]? = some (n, [p, q]))
  have hu' : [p, q] = [p1, q1] := hu
  cases hu'
  have hcell : ∀ j z, ([sa, .int .i64 p, .int .i64 q] : List Value)[j]? = some z → cur[j]? = some z := fun j z hz => by
    have hj : j < 3 := (List.getElem?_eq_some_iff.1 hz).1
    have := flat_at (j := j) k7 hrp hz
    rw [← k8, List.getElem?_take, if_pos (by simp; omega)] at this
    simpa using this
  exact ⟨g, cap, e, k3, k4, fun u hu => ⟨keepE hu (k1.cell (hcell 1 _ rfl)), keepE hu (k1.cell (hcell 2 _ rfl))⟩⟩
theorem sz_one {n : List Int} {p q : Int} (h : n.length ≤ 16) : szL 40 szS [(n, [p, q])] := ⟨by simp, fun y hy => by simp at hy; subst hy; show n.length ≤ _; omega⟩

end Go.Proofs.Ytejkkhlblnepeab
end

section
set_option linter.unusedVariables false
set_option linter.unusedSimpArgs false
namespace Go.Proofs.Ytejkkhlblnepeab
open Go.RowKit Oct Kvl

set_option maxRecDepth 10000 in
set_option maxHeartbeats 2000000 in
theorem refCopyS_some (w : World) (bb off cap : Nat) (ys : List PEnt) (hl : 0 < ys.length) (hc : ys.length ≤ cap) (hm : cap ≤ maxLen) (hbb : bb < w.heap.size)
    (hx : ∀ (i : Nat) (a : PEnt), ys[i]? = some a → ∃ r, r.length = 3 ∧ w.rangeAt bb (off + i * 3) r ∧ RLea Any w r a) (hz : szL 40 szS ys) :
    Calls Try.prog 16 #[.slice (some ⟨bb, off, none⟩) ys.length cap] w fun e w' => ∃ v', e = .returned v' ∧ LB RLea 45 3 w.heap.size w' v' ys ∧ Below w.heap.size w w' := by
  obtain ⟨hz1, hz2⟩ := hz
  have HX := (show Hid (∀ (i : Nat) (a : PEnt), ys[i]? = some a → ∃ r, r.length = 3 ∧ w.rangeAt bb (off + i * 3) r ∧ RLea Any w r a) from hx)
  have HZ := (show Hid (∀ y ∈ ys, szS y) from hz2)
  have hlm : (ys.length : Int) ≤ 9223372036854775807 := by unfold maxLen at hm; omega
  clear hx hz2
  go_enter Try.func16, Try.ntmps16
  go_wp2_with fail
  go_loopw [3, 9] (fun v i wr => ∃ q : Nat, q ≤ ys.length ∧ i = .int .i64 q ∧ LB RLea 45 3 w.heap.size wr v (ys.take q) ∧ Below w.heap.size w wr) (fun _ i _ => ys.length - (intOf i).toNat)
  case atStart => exact ⟨0, by omega, rfl, LB.fresh _ _ _ _ _ (Nat.le_refl _), below_alloc w _⟩
  case round =>
    obtain ⟨q, hq, rfl, hLB, hB⟩ := hrel
    by_cases hql : q < ys.length
    · obtain ⟨a, ha⟩ : ∃ a, ys[q]? = some a := ⟨_, List.getElem?_eq_getElem hql⟩
      obtain ⟨r, _, hrng, s, p1, q1, rfl, hs, ht⟩ := HX.out q a ha
      have hza := HZ.out a (List.mem_of_getElem? ha)
      have hza1 : szT a.1 := hza
      have hrng := rangeAt_block hrng (hB.block bb hbb)
      have HA := (show Hid (ys.take (q + 1) = ys.take q ++ [a]) from take_snoc' ys q a ha)
      have hrow0 := Row.new wr 45 [.slice none 0 0, .int .i64 0, .int .i64 0]
      have htl := take_lenE hq
      clear ha hza
      go_upto_region 5 with (first
        | (refine wpList_load_mid rfl _ _ rfl bb (off + q * 3) rfl [s, .int .i64 p1, .int .i64 q1] _ hrng Try.underlying45 rfl (by kernel_rfl) ?_)
        | (refine wl_store rfl _ _ _ rfl wr.heap.size [s, .int .i64 p1, .int .i64 q1] rfl rfl _ _ hrow0 rfl (by kernel_rfl) (onL3 hs.one) ?_; intro w5 hr5 hg5))
      have hb5 : Below wr.heap.size wr w5 := (below_alloc wr (.cells ([.slice none 0 0, .int .i64 0, .int .i64 0] : List Value).toArray 45)).trans (grown_below hg5 (by simp) (fun k hk => by cases hk; exact Nat.le_refl _))
      have hr5 := hr5.out
      have hB5 := below_and hB (Nat.le_refl _) hb5
      have hs5 := (hs.mv (Mv.below hB5)).1
      have p0 := (rowA hr5 (.cells #[] 5)).cell (j := 0) rfl
      have hlt := hLB.lt
      clear hrng hrow0 hg5
      go_upto_region 6 with (first
        | (at_builtin; refine app_copy rfl _ _ rfl rfl _ a.1 rfl hs5 (Nat.le_trans hza1 (by decide)) ?_; intro v6 w6 hown6 hfr6 hb6; have r6 := hr5.below hb6)
        | (refine wl_set rfl _ _ _ rfl wr.heap.size 0 _ rfl rfl _ _ r6 (show 0 < 3 by decide) (by kernel_rfl) (own1 hown6) ?_; intro w7 hr7 hg7))
      have r7 : Row w7 wr.heap.size 45 [v6, .int .i64 p1, .int .i64 q1] := hr7.out
      have f6 : RT (From w5.heap.size) w6 v6 a.1 := RT.own hown6 hs5.1 hfr6
      obtain ⟨ax6, cx6, rfl, _⟩ := f6.form
      have hlt5 := hr5.lt
      have f7 := f6.mv (Mv.from (L := w5.heap.size) hg7 (by omega) (Nat.le_refl _))
      have hb06 := below_and hb5 (Nat.le_refl _) hb6
      have hB6 := below_and hB (Nat.le_refl _) hb06
      have hb7 : Below wr.heap.size wr w7 := hb06.trans (grown_below hg7 hb06.size (fun k hk => by cases hk; exact Nat.le_refl _))
      have hB7 := below_and hB (Nat.le_refl _) hb7
      have hL7 := hLB.below mov_lea hb7
      have hRc : RLea (From w5.heap.size) w7 [.slice ax6 a.1.length cx6, .int .i64 p1, .int .i64 q1] a := ⟨_, _, _, rfl, f7, ht⟩
      have hlt7 : ∀ g, u3.ownBlock = some g → g < w5.heap.size := fun g hg => Nat.lt_of_lt_of_le (hlt g hg) hb5.size
      clear hr7 hg7 hb6 hown6 hfr6 f6 p0 hb06 hB6
      go_wp2_with (first
        | (refine wl_load rfl _ _ rfl wr.heap.size rfl _ _ r7 _ Try.underlying45 rfl (by kernel_rfl) ?_)
        | (at_builtin; refine wl_push mov_lea rfl _ _ _ rfl 45 3 40 _ Try.underlying23 Try.infL rfl (by decide) w.heap.size u3 (ys.take q) rfl hL7 [.slice ax6 a.1.length cx6, .int .i64 p1, .int .i64 q1] a w5.heap.size hRc rfl (one_RS hRc) hB5.size hlt7 rfl hB7.size (by rw [htl]; omega) (by decide) ?_; intro v8 w8 hLB8 hg8))
      rw [← HA.out] at hLB8
      go_roundw
      case rel => exact ⟨q + 1, by omega, by go_num, hLB8, hB7.trans (grown_below hg8 hB7.size (fun k hk => hLB.fr k hk))⟩
      case measure => simp [intOf]; omega
    · obtain rfl : q = ys.length := by omega
      rw [List.take_length] at hLB
      go_wp2_with fail
      go_ret
      exact ⟨_, rfl, hLB, hB⟩
theorem refCopyS_none (w : World) (ao : Option Addr) (c : Nat) : Calls Try.prog 16 #[.slice ao 0 c] w fun e w' => ∃ v', e = .returned v' ∧ LB RLea 45 3 w.heap.size w' v' [] ∧ Below w.heap.size w w' := by
  go_enter Try.func16, Try.ntmps16
  go_wp2_with fail
  refine wp_loop_rounds 1 ?_; rw [rounds_succ]
  go_wp2_with fail
  go_ret
  exact ⟨_, rfl, LB.fresh RLea 45 3 w.heap.size w (Nat.le_refl _), below_alloc w _⟩
/-- The document's Copy. -/
theorem refCopyS_any (w : World) (v : Value) (ys : List PEnt) (h : RL RLea 3 Any w v ys) (hz : szL 40 szS ys) :
    Calls Try.prog 16 #[v] w fun e w' => ∃ v', e = .returned v' ∧ LB RLea 45 3 w.heap.size w' v' ys ∧ Below w.heap.size w w' := by
  by_cases hl : 0 < ys.length
  · obtain ⟨b1, o1, c1, rfl, hc1, hm1, _, hb1, hx1⟩ := h.at hl
    exact refCopyS_some w b1 o1 c1 ys hl hc1 hm1 hb1 hx1 hz
  · obtain rfl : ys = [] := List.eq_nil_of_length_eq_zero (by omega)
    obtain ⟨ao, c1, rfl, _⟩ := h.form
    exact refCopyS_none w ao c1
end Go.Proofs.Ytejkkhlblnepeab
end

section
set_option linter.unusedVariables false
set_option linter.unusedSimpArgs false
namespace Go.Proofs.Ytejkkhlblnepeab
open Go.RowKit Oct Kvl



set_option maxHeartbeats 2000000 in
/-- The document's Same, of the same leases. -/
theorem sameS_eq (w : World) (u v : Value) (ys : List PEnt) (h1 : RL RLea 3 Any w u ys) (h2 : RL RLea 3 Any w v ys) :
    Calls Try.prog 22 #[u, v] w fun e w' => e = .returned (.bool true) ∧ Below w.heap.size w w' := by
  by_cases hl : 0 < ys.length
  · obtain ⟨b1, o1, c1, rfl, hc1, hm1, _, hb1, hx1⟩ := h1.at hl
    obtain ⟨b2, o2, c2, rfl, hc2, hm2, _, hb2, hx2⟩ := h2.at hl
    have H1 := (show Hid (∀ (i : Nat) (a : PEnt), ys[i]? = some a → ∃ r, r.length = 3 ∧ w.rangeAt b1 (o1 + i * 3) r ∧ RLea Any w r a) from hx1)
    have H2 := (show Hid (∀ (i : Nat) (a : PEnt), ys[i]? = some a → ∃ r, r.length = 3 ∧ w.rangeAt b2 (o2 + i * 3) r ∧ RLea Any w r a) from hx2)
    have hlm : (ys.length : Int) ≤ 9223372036854775807 := by unfold maxLen at hm1; omega
    clear hx1 hx2 h1 h2
    go_enter Try.func22, Try.ntmps22
    go_wp2_with fail
    go_loopw [13] (fun i wr => ∃ q : Nat, q ≤ ys.length ∧ i = .int .i64 q ∧ Below w.heap.size w wr) (fun i _ => ys.length - (intOf i).toNat)
    case atStart => exact ⟨0, by omega, rfl, Below.refl _ _⟩
    case round =>
      obtain ⟨q, hq, rfl, hB⟩ := hrel
      by_cases hql : q < ys.length
      · obtain ⟨a, ha⟩ : ∃ a, ys[q]? = some a := ⟨_, List.getElem?_eq_getElem hql⟩
        obtain ⟨r1, _, g1, s1, p1, q1, rfl, t1, t2⟩ := H1.out q a ha
        obtain ⟨r2, _, g2, s3, p2, q2, rfl, t3, t4⟩ := H2.out q a ha
        have d0 := rangeAt_block g1 (hB.block b1 hb1) 0 _ rfl
        have d1 := rangeAt_block g1 (hB.block b1 hb1) 1 _ rfl
        have d2 := rangeAt_block g2 (hB.block b2 hb2) 0 _ rfl
        have d3 := rangeAt_block g2 (hB.block b2 hb2) 1 _ rfl
        simp only [Nat.add_zero] at d0 d2
        have hS := (show Hid (∀ u, Below w.heap.size w u → Calls Try.prog 8 #[s1, s3] u fun e w' => e = .returned (.bool true) ∧ w' = u) from fun u hu => by
          have := same_any u s1 s3 _ _ (t1.mv (Mv.below hu)).1 (t3.mv (Mv.below hu)).1
          rw [decide_eq_true rfl] at this
          exact this)
        have d4 := rangeAt_block g1 (hB.block b1 hb1) 2 _ rfl
        have d5 := rangeAt_block g2 (hB.block b2 hb2) 2 _ rfl
        rw [t2] at t4
        injection t4 with u1 u2
        injection u2 with u2 _
        subst u1 u2
        have hp : (p1 != p1) = false := by simp
        have hq' : (q1 != q1) = false := by simp
        clear g1 g2 t1 t2 t3 ha
        go_wp2_with fail
        go_big_quiet ((go_at_call 8; exact quiet_as (hS.out _ (bel_dnE hB _)) rfl))
        go_wp2_with fail
        go_roundw
        case rel => exact ⟨q + 1, by omega, by go_num, bel_dnE hB _⟩
        case measure => simp [intOf]; omega
      · go_wp2_with fail
        go_ret
        exact ⟨rfl, hB⟩
  · obtain rfl : ys = [] := List.eq_nil_of_length_eq_zero (by omega)
    obtain ⟨ao, c1, rfl, _⟩ := h1.form
    obtain ⟨bo, c2, rfl, _⟩ := h2.form
    go_enter Try.func22, Try.ntmps22
    go_wp2_with fail
    refine wp_loop_rounds 1 ?_; rw [rounds_succ]
    go_wp2_with fail
    go_ret
    exact ⟨rfl, Below.refl _ _⟩

end Go.Proofs.Ytejkkhlblnepeab
end
