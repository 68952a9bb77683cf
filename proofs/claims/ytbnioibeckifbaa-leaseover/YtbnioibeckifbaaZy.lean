/- The document's copy of leases. -/
import Derived.Test.YtbnioibeckifbaaZm
import Derived.Test.YtbnioibeckifbaaKo
set_option linter.unusedVariables false
set_option linter.unusedSimpArgs false
namespace Go.Proofs.Ytbnioibeckifbaa
open Go.RowKit Oct Kvl

set_option maxRecDepth 10000 in
set_option maxHeartbeats 2000000 in
theorem refCopyS_some (w : World) (bb off cap : Nat) (ys : List PEnt) (hl : 0 < ys.length) (hc : ys.length ≤ cap) (hm : cap ≤ maxLen) (hbb : bb < w.heap.size)
    (hx : ∀ (i : Nat) (a : PEnt), ys[i]? = some a → ∃ r, r.length = 3 ∧ w.rangeAt bb (off + i * 3) r ∧ RLea Any w r a) (hz : szL 40 szS ys) :
    Calls Try.prog 20 #[.slice (some ⟨bb, off, none⟩) ys.length cap] w fun e w' => ∃ v', e = .returned v' ∧ LB RLea 50 3 w.heap.size w' v' ys ∧ Below w.heap.size w w' := by
  obtain ⟨hz1, hz2⟩ := hz
  have HX := (show Hid (∀ (i : Nat) (a : PEnt), ys[i]? = some a → ∃ r, r.length = 3 ∧ w.rangeAt bb (off + i * 3) r ∧ RLea Any w r a) from hx)
  have HZ := (show Hid (∀ y ∈ ys, szS y) from hz2)
  have hlm : (ys.length : Int) ≤ 9223372036854775807 := by unfold maxLen at hm; omega
  clear hx hz2
  go_enter Try.func20, Try.ntmps20
  go_wp2_with fail
  go_loopw [3, 9] (fun v i wr => ∃ q : Nat, q ≤ ys.length ∧ i = .int .i64 q ∧ LB RLea 50 3 w.heap.size wr v (ys.take q) ∧ Below w.heap.size w wr) (fun _ i _ => ys.length - (intOf i).toNat)
  case atStart => exact ⟨0, by omega, rfl, LB.fresh _ _ _ _ _ (Nat.le_refl _), below_alloc w _⟩
  case round =>
    obtain ⟨q, hq, rfl, hLB, hB⟩ := hrel
    by_cases hql : q < ys.length
    · obtain ⟨a, ha⟩ : ∃ a, ys[q]? = some a := ⟨_, List.getElem?_eq_getElem hql⟩
      obtain ⟨r, _, hrng, s, p1, q1, rfl, hs, ht⟩ := HX.out q a ha
      have hza := HZ.out a (List.mem_of_getElem? ha)
      have hza1 : szT a.1 := hza
      have hrng := rangeAt_block hrng (hB.block bb hbb)
      have HA := (show Hid (ys.take (q + 1) = ys.take q ++ [a]) from take_snoc' ys q a ha)
      have hrow0 := Row.new wr 50 [.slice none 0 0, .int .i64 0, .int .i64 0]
      have htl := take_lenE hq
      clear ha hza
      go_upto_region 5 with (first
        | (refine wpList_load_mid rfl _ _ rfl bb (off + q * 3) rfl [s, .int .i64 p1, .int .i64 q1] _ hrng Try.underlying50 rfl (by kernel_rfl) ?_)
        | (refine wl_store rfl _ _ _ rfl wr.heap.size [s, .int .i64 p1, .int .i64 q1] rfl rfl _ _ hrow0 rfl (by kernel_rfl) (onL3 hs.one) ?_; intro w5 hr5 hg5))
      have hb5 : Below wr.heap.size wr w5 := (below_alloc wr (.cells ([.slice none 0 0, .int .i64 0, .int .i64 0] : List Value).toArray 50)).trans (grown_below hg5 (by simp) (fun k hk => by cases hk; exact Nat.le_refl _))
      have hr5 := hr5.out
      have hB5 := below_and hB (Nat.le_refl _) hb5
      have hs5 := (hs.mv (Mv.below hB5)).1
      have p0 := (rowA hr5 (.cells #[] 5)).cell (j := 0) rfl
      have hlt := hLB.lt
      clear hrng hrow0 hg5
      go_upto_region 6 with (first
        | (at_builtin; refine app_copy rfl _ _ rfl rfl _ a.1 rfl hs5 (Nat.le_trans hza1 (by decide)) ?_; intro v6 w6 hown6 hfr6 hb6; have r6 := hr5.below hb6)
        | (refine wl_set rfl _ _ _ rfl wr.heap.size 0 _ rfl rfl _ _ r6 (show 0 < 3 by decide) (by kernel_rfl) (own1 hown6) ?_; intro w7 hr7 hg7))
      have r7 : Row w7 wr.heap.size 50 [v6, .int .i64 p1, .int .i64 q1] := hr7.out
      have f6 : RT (From w5.heap.size) w6 v6 a.1 := RT.own hown6 hs5.1 hfr6
      obtain ⟨ax6, cx6, rfl, _⟩ := f6.form
      have hlt5 := hr5.lt
      have f7 := f6.mv (Mv.from (L := w5.heap.size) hg7 (by omega) (Nat.le_refl _))
      have hb06 := below_and hb5 (Nat.le_refl _) hb6
      have hB6 := below_and hB (Nat.le_refl _) hb06
      have hb7 : Below wr.heap.size wr w7 := hb06.trans (grown_below hg7 hb06.size (fun k hk => by cases hk; exact Nat.le_refl _))
      have hB7 := below_and hB (Nat.le_refl _) hb7
      have hL7 := hLB.below mov_lea hb7
      have hRc : RLea (From w5.heap.size) w7 [.slice ax6 a.1.length cx6, .int .i64 p1, .int .i64 q1] a := ⟨_, _, _, rfl, f7, ht⟩
      have hlt7 : ∀ g, u3.ownBlock = some g → g < w5.heap.size := fun g hg => Nat.lt_of_lt_of_le (hlt g hg) hb5.size
      clear hr7 hg7 hb6 hown6 hfr6 f6 p0 hb06 hB6
      go_wp2_with (first
        | (refine wl_load rfl _ _ rfl wr.heap.size rfl _ _ r7 _ Try.underlying50 rfl (by kernel_rfl) ?_)
        | (at_builtin; refine wl_push mov_lea rfl _ _ _ rfl 50 3 40 _ Try.underlying42 Try.infL rfl (by decide) w.heap.size u3 (ys.take q) rfl hL7 [.slice ax6 a.1.length cx6, .int .i64 p1, .int .i64 q1] a w5.heap.size hRc rfl (one_RS hRc) hB5.size hlt7 rfl hB7.size (by rw [htl]; omega) (by decide) ?_; intro v8 w8 hLB8 hg8))
      rw [← HA.out] at hLB8
      go_roundw
      case rel => exact ⟨q + 1, by omega, by go_num, hLB8, hB7.trans (grown_below hg8 hB7.size (fun k hk => hLB.fr k hk))⟩
      case measure => simp [intOf]; omega
    · obtain rfl : q = ys.length := by omega
      rw [List.take_length] at hLB
      go_wp2_with fail
      go_ret
      exact ⟨_, rfl, hLB, hB⟩
theorem refCopyS_none (w : World) (ao : Option Addr) (c : Nat) : Calls Try.prog 20 #[.slice ao 0 c] w fun e w' => ∃ v', e = .returned v' ∧ LB RLea 50 3 w.heap.size w' v' [] ∧ Below w.heap.size w w' := by
  go_enter Try.func20, Try.ntmps20
  go_wp2_with fail
  refine wp_loop_rounds 1 ?_; rw [rounds_succ]
  go_wp2_with fail
  go_ret
  exact ⟨_, rfl, LB.fresh RLea 50 3 w.heap.size w (Nat.le_refl _), below_alloc w _⟩
/-- The document's Copy. -/
theorem refCopyS_any (w : World) (v : Value) (ys : List PEnt) (h : RL RLea 3 Any w v ys) (hz : szL 40 szS ys) :
    Calls Try.prog 20 #[v] w fun e w' => ∃ v', e = .returned v' ∧ LB RLea 50 3 w.heap.size w' v' ys ∧ Below w.heap.size w w' := by
  by_cases hl : 0 < ys.length
  · obtain ⟨b1, o1, c1, rfl, hc1, hm1, _, hb1, hx1⟩ := h.at hl
    exact refCopyS_some w b1 o1 c1 ys hl hc1 hm1 hb1 hx1 hz
  · obtain rfl : ys = [] := List.eq_nil_of_length_eq_zero (by omega)
    obtain ⟨ao, c1, rfl, _⟩ := h.form
    exact refCopyS_none w ao c1
end Go.Proofs.Ytbnioibeckifbaa
