/- The chapter's example: sessionAlive; SessionNames. -/
import Derived.Test.YtmmcgafmhadioaaXF
import Derived.Test.YtmmcgafmhadioaaKm
import Derived.Test.YtmmcgafmhadioaaKr
section
set_option linter.unusedVariables false
set_option linter.unusedSimpArgs false
namespace Go.Proofs.Ytmmcgafmhadioaa
open Go.RowKit Oct Kvl

theorem aliveW : outW (2, [97], [53], [], 0) = [2, 1, 97, 1, 53, 0, 0] ∧ errW (2, [97], [53], [], 0) = 0 := by decide
theorem aliveA1 : applyA (0, [], [], []) (1, 1, [2, 1, 97, 1, 53, 0, 0], []) = ((1, [([97], [53])], [], [([1], [1, 0])]), (0, []), true) := by kernel_rfl
theorem aliveA2 : applyA (1, [([97], [53])], [], [([1], [1, 0])]) (1, 1, [2, 1, 97, 1, 53, 0, 0], []) = ((2, [([97], [53])], [], [([1], [1, 0])]), (0, []), false) := by kernel_rfl
theorem zeroApp (w : World) : RApp Any w [.int .i64 0, .slice none 0 0, .slice none 0 0, .slice none 0 0] (0, [], [], []) := ⟨_, _, _, rfl, RL.nil _ _ _ _, RL.nil _ _ _ _, RL.nil _ _ _ _⟩
theorem zeroSz : szA (0, [], [], []) := ⟨⟨by simp, fun y hy => by cases hy⟩, ⟨by simp, fun y hy => by cases hy⟩, ⟨by simp, fun y hy => by cases hy⟩⟩
theorem rgt_sz {a : PApp} (h : rgtA a) : szA a := by
  obtain ⟨_, h1, h2, h3⟩ := h
  refine ⟨⟨by have := h1.1; omega, fun y hy => ?_⟩, ⟨by have := h2.1; omega, fun y hy => ?_⟩, ⟨by have := rgn_len h3; omega, fun y hy => ?_⟩⟩
  · obtain ⟨a1, a2, a3⟩ := h1.2.2 y hy
    exact ⟨by unfold szT; omega, by unfold szT; omega⟩
  · obtain ⟨a1, a2, a3⟩ := h2.2.2 y hy
    show y.1.length ≤ _
    omega
  · obtain ⟨a1, a2, a3, a4⟩ := chk_all h3 y hy
    show (sv y).length ≤ _
    omega
theorem two_new (w4 : World) (T U : TypeId) (xs ys : List Value) : Row ((w4.alloc (.cells xs.toArray T)).alloc (.cells ys.toArray U)) w4.heap.size T xs ∧ Row ((w4.alloc (.cells xs.toArray T)).alloc (.cells ys.toArray U)) (w4.heap.size + 1) U ys := by
  refine ⟨rowA (Row.new w4 _ _) _, ?_⟩
  have := Row.new (w4.alloc (.cells xs.toArray T)) U ys
  simpa using this

set_option maxRecDepth 10000 in
set_option maxHeartbeats 8000000 in
/-- sessionAlive. -/
theorem sessionAlive_any (w : World) : Calls Try.prog 7 #[] w fun e w' => e = .returned (.bool true) ∧ Below w.heap.size w w' := by
  have le := Nat.le_refl w.heap.size
  obtain ⟨w1, hw1⟩ : ∃ w1, w1 = (w.alloc (.cells #[.int .u8 97] 5 (1, 2))).alloc (.cells #[.int .u8 53] 5 (1, 2)) := ⟨_, rfl⟩
  have B1 : Below w.heap.size w w1 := by rw [hw1]; exact below_and (below_alloc _ _) (Nat.le_refl _) (below_alloc _ _)
  have r1 : Rd w1 (.slice (some ⟨w.heap.size, 0, none⟩) 1 1) [97] := by rw [hw1]; exact (litB w 97 (by decide)).below (below_alloc _ _)
  have r2 : Rd w1 (.slice (some ⟨w.heap.size + 1, 0, none⟩) 1 1) [53] := by
    rw [hw1]
    have := litB (w.alloc (.cells #[.int .u8 97] 5 (1, 2))) 53 (by decide)
    simpa using this
  have hW := write_any w1 [.int .i64 2, .slice (some ⟨w.heap.size, 0, none⟩) 1 1, .slice (some ⟨w.heap.size + 1, 0, none⟩) 1 1, .slice none 0 0, .int .i64 0] (2, [97], [53], [], 0) ⟨_, _, _, rfl, rt_any r1, rt_any r2, RT.nil _ _⟩
  rw [aliveW.1, aliveW.2] at hW
  have HW := (show Hid (∀ _ : Unit, _) from fun _ => hW)
  clear hW r1 r2
  have v0 := cvtB
  have v1 := cvtB1
  go_enter Try.func7, Try.ntmps7
  go_upto_region 1 with fail
  go_upto_region 2 with (rw [← hw1]; go_at_call 15; refine (HW.out ()).mono ?_; rintro e w2 ⟨v2, rfl, o2, f2, hb2⟩)
  have B2 := below_and B1 le hb2
  have R2 : Rd w2 v2 [2, 1, 97, 1, 53, 0, 0] := o2.rd (fun y hy => by simp at hy; omega)
  obtain ⟨a2, c2, rfl, hc2⟩ := o2.form
  clear hw1 HW v0 v1 hb2 f2 o2 B1
  obtain ⟨w3, hw3⟩ : ∃ w3, w3 = w2.alloc (.cells #[.int .i64 1, .int .i64 1, .slice a2 (bc [2, 1, 97, 1, 53, 0, 0]).length c2, .slice none 0 0] 35) := ⟨_, rfl⟩
  have q3 : Row w3 w2.heap.size 35 [.int .i64 1, .int .i64 1, .slice a2 (bc [2, 1, 97, 1, 53, 0, 0]).length c2, .slice none 0 0] := by rw [hw3]; exact Row.new w2 _ _
  have b23 : Below w2.heap.size w2 w3 := by rw [hw3]; exact below_alloc _ _
  have hx : ∀ u, Below w3.heap.size w3 u → RReq Any u [.int .i64 1, .int .i64 1, .slice a2 (bc [2, 1, 97, 1, 53, 0, 0]).length c2, .slice none 0 0] (1, 1, [2, 1, 97, 1, 53, 0, 0], []) := fun u hu => ⟨_, _, rfl, rt_any ((R2.below b23).below hu), RT.nil _ _⟩
  have hzq : szQ (1, 1, [2, 1, 97, 1, 53, 0, 0], []) := ⟨by simp [szT], by simp [szT]⟩
  have hA1 := apply_any w3 _ _ (zeroApp w3) zeroSz _ _ (hx w3 (Below.refl _ _)) hzq
  rw [aliveA1] at hA1
  have HA1 := (show Hid (∀ _ : Unit, _) from fun _ => hA1)
  have HX := (show Hid (∀ u, Below w3.heap.size w3 u → RReq Any u [.int .i64 1, .int .i64 1, .slice a2 (bc [2, 1, 97, 1, 53, 0, 0]).length c2, .slice none 0 0] (1, 1, [2, 1, 97, 1, 53, 0, 0], [])) from hx)
  clear hx hA1
  go_upto_region 3 with fail
  rw [← hw3]
  clear hw3 R2
  go_upto_region 4 with (first
    | (refine wl_load rfl _ _ rfl w2.heap.size rfl _ _ q3 _ Try.underlying35 rfl (by kernel_rfl) ?_)
    | (go_at_call 9; refine (HA1.out ()).mono ?_; rintro e w4 ⟨row4, vv4, rfl, o4, t4, hb4⟩; have o4' := o4; obtain ⟨ve4, vl4, vs4, rfl, l1, l2, l3⟩ := o4; obtain ⟨nA, nB⟩ := two_new w4 31 24 [.int .i64 0, .slice none 0 0, .slice none 0 0, .slice none 0 0] [.int .i64 0, .slice none 0 0])
    | (refine wl_store rfl _ _ _ rfl w4.heap.size [.int .i64 1, ve4, vl4, vs4] rfl rfl _ _ nA rfl (by kernel_rfl) (onA4 l1.form l2.form l3.form) ?_; intro w5 hr5 hg5; have nB5 := nB.grown hg5 (fun e => by injection e with e; omega))
    | (refine wl_store rfl _ _ _ rfl (w4.heap.size + 1) [.int .i64 0, vv4] rfl rfl _ _ nB5 rfl (by kernel_rfl) (one_res t4.one) ?_; intro w6 hr6 hg6))
  have b45 : Below w4.heap.size w4 w5 := (below_and (below_alloc w4 _) (Nat.le_refl _) (below_alloc _ _)).trans (grown_below hg5 (by simp; omega) (fun k hk => by cases hk; exact Nat.le_refl _))
  have b46 : Below w4.heap.size w4 w6 := b45.trans (grown_below hg6 b45.size (fun k hk => by cases hk; omega))
  have yA : Row w6 w4.heap.size 31 [.int .i64 1, ve4, vl4, vs4] := hr5.out.grown hg6 (fun e => by injection e with e; omega)
  have yB := hr6.out
  have b36 := below_and hb4 (Nat.le_refl _) b46
  have q6 := q3.below b36
  have o6 := o4'.app.below b46
  have hA2 := apply_any w6 _ _ o6 (rgt_sz (by decide)) _ _ (HX.out w6 b36) hzq
  rw [aliveA2] at hA2
  have HA2 := (show Hid (∀ _ : Unit, _) from fun _ => hA2)
  obtain ⟨bA, hbA⟩ : ∃ bA, bA = w4.heap.size := ⟨_, rfl⟩
  have hlA := yA.lt
  have hlB := yB.lt
  rw [← hbA] at yA yB hlA hlB ⊢
  clear hA2 HA1 l1 l2 l3 o4' nA nB hr5 hr6 hg5 hg6 b45 b46 hb4 nB5 t4 o6 hbA
  go_upto_region 5 with (first
    | (refine wl_load rfl _ _ rfl bA rfl _ _ yA _ Try.underlying31 rfl (by kernel_rfl) ?_)
    | (refine wl_load rfl _ _ rfl w2.heap.size rfl _ _ q6 _ Try.underlying35 rfl (by kernel_rfl) ?_)
    | (go_at_call 9; refine (HA2.out ()).mono ?_; rintro e w7 ⟨row7, vv7, rfl, o7, t7, hb7⟩; have o7' := o7; obtain ⟨ve7, vl7, vs7, rfl, l1, l2, l3⟩ := o7; obtain ⟨nA, nB⟩ := two_new w7 31 24 [.int .i64 0, .slice none 0 0, .slice none 0 0, .slice none 0 0] [.int .i64 0, .slice none 0 0])
    | (refine wl_store rfl _ _ _ rfl w7.heap.size [.int .i64 2, ve7, vl7, vs7] rfl rfl _ _ nA rfl (by kernel_rfl) (onA4 l1.form l2.form l3.form) ?_; intro w8 hr8 hg8; have nB8 := nB.grown hg8 (fun e => by injection e with e; omega))
    | (refine wl_store rfl _ _ _ rfl (w7.heap.size + 1) [.int .i64 0, vv7] rfl rfl _ _ nB8 rfl (by kernel_rfl) (one_res t7.one) ?_; intro w9 hr9 hg9))
  have b78 : Below w7.heap.size w7 w8 := (below_and (below_alloc w7 _) (Nat.le_refl _) (below_alloc _ _)).trans (grown_below hg8 (by simp; omega) (fun k hk => by cases hk; exact Nat.le_refl _))
  have b79 : Below w7.heap.size w7 w9 := b78.trans (grown_below hg9 b78.size (fun k hk => by cases hk; omega))
  have zA : Row w9 w7.heap.size 31 [.int .i64 2, ve7, vl7, vs7] := hr8.out.grown hg9 (fun e => by injection e with e; omega)
  have b69 := below_and hb7 (Nat.le_refl _) b79
  have B9 := below_and B2 le (below_and b23 (Nat.le_refl _) (below_and b36 (Nat.le_refl _) b69))
  obtain ⟨ae, ce, rfl, _⟩ := (Re.rl l1).form
  obtain ⟨as', cs', rfl, _⟩ := (Rn.rl l3).form
  have e0 := (yB.below b69).cell (j := 0) rfl
  have e1 := hr9.out.cell (j := 0) rfl
  have e2 := zA.cell (j := 0) rfl
  have e3 := zA.cell (j := 1) rfl
  have e4 := zA.cell (j := 3) rfl
  clear yA yB q6 q3 HX HA2 l1 l2 l3 o7' t7 nA nB hr8 hr9 hg8 hg9 b78 b79 zA nB8
  go_wp2_with fail
  go_ret
  exact ⟨rfl, B9⟩

set_option maxRecDepth 10000 in
set_option maxHeartbeats 4000000 in
theorem sessionNames_any (w : World) : Calls Try.prog 3 #[] w fun e w' => e = .returned (.bool true) ∧ Below w.heap.size w w' := by
  have le := Nat.le_refl w.heap.size
  have hL := last_any w _ _ (zeroApp w) zeroSz.2.2 1
  have e0 : lasN (((0, [], [], []) : PApp).2.2.2) 1 = (0, 0, []) := rfl
  rw [e0] at hL
  have HR := (show Hid (∀ u, Calls Try.prog 8 #[.agg #[.int .i64 0, .slice none 0 0, .slice none 0 0, .slice none 0 0]] u fun e w' => e = .returned (.bool true) ∧ Below u.heap.size u w') from fun u => by
    have := rightA_any u _ _ (zeroApp u)
    rw [decide_eq_true (by decide : rgtA (0, [], [], []))] at this
    exact this)
  go_enter Try.func3, Try.ntmps3
  go_wp2_with (first
    | (go_at_call 6; refine hL.mono ?_; rintro e w1 ⟨vv1, rfl, t1, hb1⟩; have n1 := Row.new w1 24 [.int .i64 0, .slice none 0 0])
    | (refine wl_store rfl _ _ _ rfl w1.heap.size [.int .i64 0, vv1] rfl rfl _ _ n1 rfl (by kernel_rfl) (one_res t1.one) ?_; intro w2 hr2 hg2; have b12 : Below w1.heap.size w1 w2 := (below_alloc w1 _).trans (grown_below hg2 (by simp) (fun k hk => by cases hk; exact Nat.le_refl _)); have B2 := below_and hb1 le b12)
    | (go_at_call 7; refine (sessionAlive_any w2).mono ?_; rintro e w3 ⟨rfl, hb3⟩)
    | (go_at_call 8; refine (HR.out w3).mono ?_; rintro e w4 ⟨rfl, hb4⟩; have b24 := below_and hb3 (Nat.le_refl _) hb4; have e1 := (hr2.out.below b24).cell (j := 0) rfl))
  go_ret
  exact ⟨rfl, below_and B2 le b24⟩
end Go.Proofs.Ytmmcgafmhadioaa
end
