/- leaseAlive. -/
import Derived.Test.YtbnioibeckifbaaZo
import Derived.Test.YtbnioibeckifbaaKm
set_option linter.unusedVariables false
set_option linter.unusedSimpArgs false
namespace Go.Proofs.Ytbnioibeckifbaa
open Go.RowKit Oct Kvl

theorem aliveS1 : doS [] (5, [97], [], [], 3) 1 5 = ([([97], [1, 8])], 0, []) := by decide
theorem aliveS2 : doS [([97], [1, 8])] (5, [97], [], [], 3) 2 7 = ([([97], [1, 8])], 4, [1, 1]) := by decide
theorem aliveS3 : doS [([97], [1, 8])] (5, [97], [], [], 3) 2 8 = ([([97], [2, 11])], 0, []) := by decide
/-- One lease alone. -/
theorem LB.one {B : Nat} {w : World} {v : Value} {n : List Int} {p q : Int} (h : LB OLea 50 3 B w v [(n, [p, q])]) : ∃ g cap, v = .slice (some ⟨g, 0, none⟩) 1 cap ∧ 1 ≤ cap ∧ cap ≤ maxLen ∧ ∀ u, Below w.heap.size w u → u.cell? ⟨g, 1, none⟩ = some (.int .i64 p) ∧ u.cell? ⟨g, 2, none⟩ = some (.int .i64 q) := by
  obtain ⟨g, cap, cur, rows, e, k1, k2, k3, k4, k5, k6, k7, k8, k9⟩ := h.opnS (by simp)
  obtain ⟨rp, hrp⟩ : ∃ rp, rows[0]? = some rp := ⟨_, List.getElem?_eq_getElem (by simp at k6; omega)⟩
  obtain ⟨sa, p1, q1, rfl, o1, hu⟩ := k9.get hrp (rfl : [(n, [p, q])][0]? = some (n, [p, q]))
  have hu' : [p, q] = [p1, q1] := hu
  cases hu'
  have hcell : ∀ j z, ([sa, .int .i64 p, .int .i64 q] : List Value)[j]? = some z → cur[j]? = some z := fun j z hz => by
    have hj : j < 3 := (List.getElem?_eq_some_iff.1 hz).1
    have := flat_at (j := j) k7 hrp hz
    rw [← k8, List.getElem?_take, if_pos (by simp; omega)] at this
    simpa using this
  exact ⟨g, cap, e, k3, k4, fun u hu => ⟨keepE hu (k1.cell (hcell 1 _ rfl)), keepE hu (k1.cell (hcell 2 _ rfl))⟩⟩
theorem sz_one {n : List Int} {p q : Int} (h : n.length ≤ 16) : szL 40 szS [(n, [p, q])] := ⟨by simp, fun y hy => by simp at hy; subst hy; show n.length ≤ _; omega⟩

set_option maxRecDepth 10000 in
set_option maxHeartbeats 4000000 in
/-- leaseAlive. -/
theorem leaseAlive_any (w : World) : Calls Try.prog 19 #[] w fun e w' => e = .returned (.bool true) ∧ Below w.heap.size w w' := by
  have le := Nat.le_refl w.heap.size
  obtain ⟨w1, hw1⟩ : ∃ w1, w1 = (w.alloc (.cells #[.int .u8 97] 5 (1, 2))).alloc (.cells #[.int .i64 5, .slice (some ⟨w.heap.size, 0, none⟩) 1 1, .slice none 0 0, .slice none 0 0, .int .i64 3] 25) := ⟨_, rfl⟩
  have B1 : Below w.heap.size w w1 := by rw [hw1]; exact below_and (below_alloc _ _) (Nat.le_refl _) (below_alloc _ _)
  have r1 : Rd w1 (.slice (some ⟨w.heap.size, 0, none⟩) 1 1) [97] := by rw [hw1]; exact (litB w 97 (by decide)).below (below_alloc _ _)
  have x1 : Row w1 (w.heap.size + 1) 25 [.int .i64 5, .slice (some ⟨w.heap.size, 0, none⟩) 1 1, .slice none 0 0, .slice none 0 0, .int .i64 3] := by
    rw [hw1]
    have := Row.new (w.alloc (.cells #[.int .u8 97] 5 (1, 2))) 25 [.int .i64 5, .slice (some ⟨w.heap.size, 0, none⟩) 1 1, .slice none 0 0, .slice none 0 0, .int .i64 3]
    simpa using this
  have hop : ∀ u, Below w1.heap.size w1 u → ROp Any u [.int .i64 5, .slice (some ⟨w.heap.size, 0, none⟩) 1 1, .slice none 0 0, .slice none 0 0, .int .i64 3] (5, [97], [], [], 3) := fun u hu => ⟨_, _, _, rfl, rt_any (r1.below hu), RT.nil _ _, RT.nil _ _⟩
  have hzo : szO (5, [97], [], [], 3) := ⟨by simp [szT], by simp [szT], by simp [szT]⟩
  have hD1 := doS_any w1 (.slice none 0 0) [] (RL.nil _ _ _ _) ⟨by simp, fun y hy => by cases hy⟩ _ _ (hop w1 (Below.refl _ _)) hzo 1 5
  rw [aliveS1] at hD1
  have HD1 := (show Hid (∀ _ : Unit, _) from fun _ => hD1)
  have HO := (show Hid (∀ u, Below w1.heap.size w1 u → ROp Any u [.int .i64 5, .slice (some ⟨w.heap.size, 0, none⟩) 1 1, .slice none 0 0, .slice none 0 0, .int .i64 3] (5, [97], [], [], 3)) from hop)
  clear hD1 hop
  have v0 := cvtB
  have v1 := cvtB1
  go_enter Try.func19, Try.ntmps19
  go_upto_region 2 with fail
  rw [← hw1]
  clear hw1
  go_upto_region 3 with (first
    | (refine wl_load rfl _ _ rfl (w.heap.size + 1) rfl _ _ x1 _ Try.underlying25 rfl (by kernel_rfl) ?_)
    | (go_at_call 21; refine (HD1.out ()).mono ?_; rintro e w2 ⟨v2, vv2, rfl, hL2, t2, hb2⟩; have n2 := Row.new w2 30 [.int .i64 0, .slice none 0 0])
    | (refine wl_store rfl _ _ _ rfl w2.heap.size [.int .i64 0, vv2] rfl rfl _ _ n2 rfl (by kernel_rfl) (one_res t2.one) ?_; intro w3 hr3 hg3))
  have q2 : Below w1.heap.size w1 w2 := hb2
  have q3 : Below w2.heap.size w2 w3 := (below_alloc w2 _).trans (grown_below hg3 (by simp) (fun k hk => by cases hk; exact Nat.le_refl _))
  have q13 := below_and q2 (Nat.le_refl _) q3
  have hL3 := hL2.below mov_olea q3
  have x3 := x1.below q13
  have y3 := hr3.out
  have hD2 := doS_any w3 v2 _ (Rs.rl hL3) (sz_one (by simp)) _ _ (HO.out w3 q13) hzo 2 7
  rw [aliveS2] at hD2
  have HD2 := (show Hid (∀ _ : Unit, _) from fun _ => hD2)
  obtain ⟨b3, hb3⟩ : ∃ b3, b3 = w2.heap.size := ⟨_, rfl⟩
  rw [← hb3] at y3 ⊢
  clear hD2 HD1 hb2 hg3 hr3 n2 t2 q2 q3 hL2 hb3 v0 v1
  go_upto_region 4 with (first
    | (refine wl_load rfl _ _ rfl (w.heap.size + 1) rfl _ _ x3 _ Try.underlying25 rfl (by kernel_rfl) ?_)
    | (go_at_call 21; refine (HD2.out ()).mono ?_; rintro e w4 ⟨v4, vv4, rfl, hL4, t4, hb4⟩; have n4 := Row.new w4 30 [.int .i64 0, .slice none 0 0])
    | (refine wl_store rfl _ _ _ rfl w4.heap.size [.int .i64 4, vv4] rfl rfl _ _ n4 rfl (by kernel_rfl) (one_res t4.one) ?_; intro w5 hr5 hg5))
  have q5 : Below w4.heap.size w4 w5 := (below_alloc w4 _).trans (grown_below hg5 (by simp) (fun k hk => by cases hk; exact Nat.le_refl _))
  have q35 := below_and hb4 (Nat.le_refl _) q5
  have q15 := below_and q13 (Nat.le_refl _) q35
  have hL5 := hL3.below mov_olea q35
  have x5 := x1.below q15
  have y5 := y3.below q35
  have z5 := hr5.out
  have t5 := t4.mv (Mv.belowG q5)
  have hD3 := doS_any w5 v2 _ (Rs.rl hL5) (sz_one (by simp)) _ _ (HO.out w5 q15) hzo 2 8
  rw [aliveS3] at hD3
  have HD3 := (show Hid (∀ _ : Unit, _) from fun _ => hD3)
  obtain ⟨b5, hb5⟩ : ∃ b5, b5 = w4.heap.size := ⟨_, rfl⟩
  rw [← hb5] at z5 ⊢
  clear hD3 HD2 hb4 hg5 hr5 n4 t4 q5 q35 hL4 hb5 hL3 x3 y3 q13
  go_upto_region 5 with (first
    | (refine wl_load rfl _ _ rfl (w.heap.size + 1) rfl _ _ x5 _ Try.underlying25 rfl (by kernel_rfl) ?_)
    | (go_at_call 21; refine (HD3.out ()).mono ?_; rintro e w6 ⟨v6, vv6, rfl, hL6, t6, hb6⟩; have n6 := Row.new w6 30 [.int .i64 0, .slice none 0 0])
    | (refine wl_store rfl _ _ _ rfl w6.heap.size [.int .i64 0, vv6] rfl rfl _ _ n6 rfl (by kernel_rfl) (one_res t6.one) ?_; intro w7 hr7 hg7))
  have q7 : Below w6.heap.size w6 w7 := (below_alloc w6 _).trans (grown_below hg7 (by simp) (fun k hk => by cases hk; exact Nat.le_refl _))
  have q57 := below_and hb6 (Nat.le_refl _) q7
  have q17 := below_and q15 (Nat.le_refl _) q57
  have B7 := below_and B1 le q17
  obtain ⟨g2, cap2, rfl, hc2, hm2, hl2⟩ := hL5.one
  obtain ⟨g6, cap6, rfl, hc6, hm6, hl6⟩ := hL6.one
  have e1 := (hl2 w7 q57).2
  have e2 := (y5.below q57).cell (j := 0) rfl
  have e3 := (z5.below q57).cell (j := 0) rfl
  have e4 := hr7.out.cell (j := 0) rfl
  have t7 := t5.mv (Mv.belowG q57)
  have hba := below_alloc w7 (.cells #[.int .u8 1, .int .u8 1] 5)
  have e5 := (z5.below q57).cell (j := 1) rfl
  have e6 := keepE hba (hr7.out.cell (j := 0) rfl)
  have e7 := (hl6 _ (below_and q7 (Nat.le_refl _) hba)).1
  have hS := same_any (w7.alloc (.cells #[.int .u8 1, .int .u8 1] 5)) vv4 (.slice (some ⟨w7.heap.size, 0, none⟩) 2 2) [1, 1] [1, 1] (t7.rt.1.below hba) (by
    refine ⟨fun y hy => by simp at hy; omega, some ⟨w7.heap.size, 0, none⟩, 2, rfl, Nat.le_refl _, by decide, fun e => (by cases e), fun a ha j u hu => ?_⟩
    cases ha
    rw [Addr.add_mid, Nat.zero_add]
    exact (Row.new w7 5 [.int .u8 1, .int .u8 1]).cell hu)
  rw [decide_eq_true rfl] at hS
  clear hl2 hl6 q7 q57 q17 q15 hg7 hr7 n6 hL5 hL6 hb6 HD3 x5 y5 z5 t5 t7 t6
  go_wp2_with (go_at_call 35; refine hS.mono ?_; rintro e w8 ⟨rfl, rfl⟩)
  go_ret
  exact ⟨rfl, below_and B7 le hba⟩
end Go.Proofs.Ytbnioibeckifbaa
