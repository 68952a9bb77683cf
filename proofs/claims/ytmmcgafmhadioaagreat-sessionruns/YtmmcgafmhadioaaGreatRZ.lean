/- catenarylaw09.SessionRuns: its walk. -/
import Derived.Test.YtmmcgafmhadioaaGreatXF
import Derived.Test.YtmmcgafmhadioaaGreatKm
import Derived.Test.YtmmcgafmhadioaaGreatKr
import Derived.Test.YtmmcgafmhadioaaGreatRY
import Derived.Test.YtmmcgafmhadioaaGreatXH
section
set_option linter.unusedVariables false
set_option linter.unusedSimpArgs false
namespace Go.Proofs.YtmmcgafmhadioaaGreat
open Go.RowKit Oct Kvl

theorem aliveW : outW (2, [97], [53], [], 0) = [2, 1, 97, 1, 53, 0, 0] ∧ errW (2, [97], [53], [], 0) = 0 := by decide
theorem aliveA1 : applyA (0, [], [], []) (1, 1, [2, 1, 97, 1, 53, 0, 0], []) = ((1, [([97], [53])], [], [([1], [1, 0])]), (0, []), true) := by kernel_rfl
theorem aliveA2 : applyA (1, [([97], [53])], [], [([1], [1, 0])]) (1, 1, [2, 1, 97, 1, 53, 0, 0], []) = ((2, [([97], [53])], [], [([1], [1, 0])]), (0, []), false) := by kernel_rfl
theorem zeroApp (w : World) : RApp Any w [.int .i64 0, .slice none 0 0, .slice none 0 0, .slice none 0 0] (0, [], [], []) := ⟨_, _, _, rfl, RL.nil _ _ _ _, RL.nil _ _ _ _, RL.nil _ _ _ _⟩
theorem zeroSz : szA (0, [], [], []) := ⟨⟨by simp, fun y hy => by cases hy⟩, ⟨by simp, fun y hy => by cases hy⟩, ⟨by simp, fun y hy => by cases hy⟩⟩
theorem rgt_sz {a : PApp} (h : rgtA a) : szA a := by
  obtain ⟨_, h1, h2, h3⟩ := h
  refine ⟨⟨by have := h1.1; omega, fun y hy => ?_⟩, ⟨by have := h2.1; omega, fun y hy => ?_⟩, ⟨by have := rgn_len h3; omega, fun y hy => ?_⟩⟩
  · obtain ⟨a1, a2, a3⟩ := h1.2.2 y hy
    exact ⟨by unfold szT; omega, by unfold szT; omega⟩
  · obtain ⟨a1, a2, a3⟩ := h2.2.2 y hy
    show y.1.length ≤ _
    omega
  · obtain ⟨a1, a2, a3, a4⟩ := chk_all h3 y hy
    show (sv y).length ≤ _
    omega
theorem two_new (w4 : World) (T U : TypeId) (xs ys : List Value) : Row ((w4.alloc (.cells xs.toArray T)).alloc (.cells ys.toArray U)) w4.heap.size T xs ∧ Row ((w4.alloc (.cells xs.toArray T)).alloc (.cells ys.toArray U)) (w4.heap.size + 1) U ys := by
  refine ⟨rowA (Row.new w4 _ _) _, ?_⟩
  have := Row.new (w4.alloc (.cells xs.toArray T)) U ys
  simpa using this

set_option maxRecDepth 10000 in
set_option maxHeartbeats 8000000 in
/-- sessionAlive. -/
theorem sessionAlive_any (w : World) : Calls Tryz.prog 5 #[] w fun e w' => e = .returned (.bool true) ∧ Below w.heap.size w w' := by
  have le := Nat.le_refl w.heap.size
  obtain ⟨w1, hw1⟩ : ∃ w1, w1 = (w.alloc (.cells #[.int .u8 97] 5 (1, 2))).alloc (.cells #[.int .u8 53] 5 (1, 2)) := ⟨_, rfl⟩
  have B1 : Below w.heap.size w w1 := by rw [hw1]; exact below_and (below_alloc _ _) (Nat.le_refl _) (below_alloc _ _)
  have r1 : Rd w1 (.slice (some ⟨w.heap.size, 0, none⟩) 1 1) [97] := by rw [hw1]; exact (litB w 97 (by decide)).below (below_alloc _ _)
  have r2 : Rd w1 (.slice (some ⟨w.heap.size + 1, 0, none⟩) 1 1) [53] := by
    rw [hw1]
    have := litB (w.alloc (.cells #[.int .u8 97] 5 (1, 2))) 53 (by decide)
    simpa using this
  have hW := write_any w1 [.int .i64 2, .slice (some ⟨w.heap.size, 0, none⟩) 1 1, .slice (some ⟨w.heap.size + 1, 0, none⟩) 1 1, .slice none 0 0, .int .i64 0] (2, [97], [53], [], 0) ⟨_, _, _, rfl, rt_any r1, rt_any r2, RT.nil _ _⟩
  rw [aliveW.1, aliveW.2] at hW
  have HW := (show Hid (∀ _ : Unit, _) from fun _ => hW)
  clear hW r1 r2
  have v0 := cvtB
  have v1 := cvtB1
  go_enter Tryz.func5, Tryz.ntmps5
  go_upto_region 1 with fail
  go_upto_region 2 with (rw [← hw1]; go_at_call 19; refine (HW.out ()).mono ?_; rintro e w2 ⟨v2, rfl, o2, f2, hb2⟩)
  have B2 := below_and B1 le hb2
  have R2 : Rd w2 v2 [2, 1, 97, 1, 53, 0, 0] := o2.rd (fun y hy => by simp at hy; omega)
  obtain ⟨a2, c2, rfl, hc2⟩ := o2.form
  clear hw1 HW v0 v1 hb2 f2 o2 B1
  obtain ⟨w3, hw3⟩ : ∃ w3, w3 = w2.alloc (.cells #[.int .i64 1, .int .i64 1, .slice a2 (bc [2, 1, 97, 1, 53, 0, 0]).length c2, .slice none 0 0] 29) := ⟨_, rfl⟩
  have q3 : Row w3 w2.heap.size 29 [.int .i64 1, .int .i64 1, .slice a2 (bc [2, 1, 97, 1, 53, 0, 0]).length c2, .slice none 0 0] := by rw [hw3]; exact Row.new w2 _ _
  have b23 : Below w2.heap.size w2 w3 := by rw [hw3]; exact below_alloc _ _
  have hx : ∀ u, Below w3.heap.size w3 u → RReq Any u [.int .i64 1, .int .i64 1, .slice a2 (bc [2, 1, 97, 1, 53, 0, 0]).length c2, .slice none 0 0] (1, 1, [2, 1, 97, 1, 53, 0, 0], []) := fun u hu => ⟨_, _, rfl, rt_any ((R2.below b23).below hu), RT.nil _ _⟩
  have hzq : szQ (1, 1, [2, 1, 97, 1, 53, 0, 0], []) := ⟨by simp [szT], by simp [szT]⟩
  have hA1 := apply_any w3 _ _ (zeroApp w3) zeroSz _ _ (hx w3 (Below.refl _ _)) hzq
  rw [aliveA1] at hA1
  have HA1 := (show Hid (∀ _ : Unit, _) from fun _ => hA1)
  have HX := (show Hid (∀ u, Below w3.heap.size w3 u → RReq Any u [.int .i64 1, .int .i64 1, .slice a2 (bc [2, 1, 97, 1, 53, 0, 0]).length c2, .slice none 0 0] (1, 1, [2, 1, 97, 1, 53, 0, 0], [])) from hx)
  clear hx hA1
  go_upto_region 3 with fail
  rw [← hw3]
  clear hw3 R2
  go_upto_region 4 with (first
    | (refine wl_load rfl _ _ rfl w2.heap.size rfl _ _ q3 _ Tryz.underlying29 rfl (by kernel_rfl) ?_)
    | (go_at_call 8; refine (HA1.out ()).mono ?_; rintro e w4 ⟨row4, vv4, rfl, o4, t4, hb4⟩; have o4' := o4; obtain ⟨ve4, vl4, vs4, rfl, l1, l2, l3⟩ := o4; obtain ⟨nA, nB⟩ := two_new w4 26 34 [.int .i64 0, .slice none 0 0, .slice none 0 0, .slice none 0 0] [.int .i64 0, .slice none 0 0])
    | (refine wl_store rfl _ _ _ rfl w4.heap.size [.int .i64 1, ve4, vl4, vs4] rfl rfl _ _ nA rfl (by kernel_rfl) (onA4 l1.form l2.form l3.form) ?_; intro w5 hr5 hg5; have nB5 := nB.grown hg5 (fun e => by injection e with e; omega))
    | (refine wl_store rfl _ _ _ rfl (w4.heap.size + 1) [.int .i64 0, vv4] rfl rfl _ _ nB5 rfl (by kernel_rfl) (one_res t4.one) ?_; intro w6 hr6 hg6))
  have b45 : Below w4.heap.size w4 w5 := (below_and (below_alloc w4 _) (Nat.le_refl _) (below_alloc _ _)).trans (grown_below hg5 (by simp; omega) (fun k hk => by cases hk; exact Nat.le_refl _))
  have b46 : Below w4.heap.size w4 w6 := b45.trans (grown_below hg6 b45.size (fun k hk => by cases hk; omega))
  have yA : Row w6 w4.heap.size 26 [.int .i64 1, ve4, vl4, vs4] := hr5.out.grown hg6 (fun e => by injection e with e; omega)
  have yB := hr6.out
  have b36 := below_and hb4 (Nat.le_refl _) b46
  have q6 := q3.below b36
  have o6 := o4'.app.below b46
  have hA2 := apply_any w6 _ _ o6 (rgt_sz (by decide)) _ _ (HX.out w6 b36) hzq
  rw [aliveA2] at hA2
  have HA2 := (show Hid (∀ _ : Unit, _) from fun _ => hA2)
  obtain ⟨bA, hbA⟩ : ∃ bA, bA = w4.heap.size := ⟨_, rfl⟩
  have hlA := yA.lt
  have hlB := yB.lt
  rw [← hbA] at yA yB hlA hlB ⊢
  clear hA2 HA1 l1 l2 l3 o4' nA nB hr5 hr6 hg5 hg6 b45 b46 hb4 nB5 t4 o6 hbA
  go_upto_region 5 with (first
    | (refine wl_load rfl _ _ rfl bA rfl _ _ yA _ Tryz.underlying26 rfl (by kernel_rfl) ?_)
    | (refine wl_load rfl _ _ rfl w2.heap.size rfl _ _ q6 _ Tryz.underlying29 rfl (by kernel_rfl) ?_)
    | (go_at_call 8; refine (HA2.out ()).mono ?_; rintro e w7 ⟨row7, vv7, rfl, o7, t7, hb7⟩; have o7' := o7; obtain ⟨ve7, vl7, vs7, rfl, l1, l2, l3⟩ := o7; obtain ⟨nA, nB⟩ := two_new w7 26 34 [.int .i64 0, .slice none 0 0, .slice none 0 0, .slice none 0 0] [.int .i64 0, .slice none 0 0])
    | (refine wl_store rfl _ _ _ rfl w7.heap.size [.int .i64 2, ve7, vl7, vs7] rfl rfl _ _ nA rfl (by kernel_rfl) (onA4 l1.form l2.form l3.form) ?_; intro w8 hr8 hg8; have nB8 := nB.grown hg8 (fun e => by injection e with e; omega))
    | (refine wl_store rfl _ _ _ rfl (w7.heap.size + 1) [.int .i64 0, vv7] rfl rfl _ _ nB8 rfl (by kernel_rfl) (one_res t7.one) ?_; intro w9 hr9 hg9))
  have b78 : Below w7.heap.size w7 w8 := (below_and (below_alloc w7 _) (Nat.le_refl _) (below_alloc _ _)).trans (grown_below hg8 (by simp; omega) (fun k hk => by cases hk; exact Nat.le_refl _))
  have b79 : Below w7.heap.size w7 w9 := b78.trans (grown_below hg9 b78.size (fun k hk => by cases hk; omega))
  have zA : Row w9 w7.heap.size 26 [.int .i64 2, ve7, vl7, vs7] := hr8.out.grown hg9 (fun e => by injection e with e; omega)
  have b69 := below_and hb7 (Nat.le_refl _) b79
  have B9 := below_and B2 le (below_and b23 (Nat.le_refl _) (below_and b36 (Nat.le_refl _) b69))
  obtain ⟨ae, ce, rfl, _⟩ := (Re.rl l1).form
  obtain ⟨as', cs', rfl, _⟩ := (Rn.rl l3).form
  have e0 := (yB.below b69).cell (j := 0) rfl
  have e1 := hr9.out.cell (j := 0) rfl
  have e2 := zA.cell (j := 0) rfl
  have e3 := zA.cell (j := 1) rfl
  have e4 := zA.cell (j := 3) rfl
  clear yA yB q6 q3 HX HA2 l1 l2 l3 o7' t7 nA nB hr8 hr9 hg8 hg9 b78 b79 zA nB8
  go_wp2_with fail
  go_ret
  exact ⟨rfl, B9⟩

end Go.Proofs.YtmmcgafmhadioaaGreat
end

section
set_option linter.unusedVariables false
set_option linter.unusedSimpArgs false
namespace Go.Proofs.YtmmcgafmhadioaaGreat
open Go.RowKit Oct Kvl

/-- Blocks but for the call's two boxes. -/
def Nb (w : World) : Nat → Prop := fun k => k ≠ w.heap.size ∧ k ≠ w.heap.size + 1
theorem nb_lt {w : World} {k : Nat} (h : k < w.heap.size) : Nb w k := ⟨by omega, by omega⟩

set_option maxRecDepth 10000 in
set_option maxHeartbeats 8000000 in
/-- catenaryref09.Run. -/
theorem refRun_any (w : World) (row : List Value) (a : PApp) (h : RApp Any w row a) (lv : Value) (ys : List PReq) (hx : RL RReq 4 Any w lv ys) (hz : ∀ y ∈ ys, szQ y) :
    Calls Tryz.prog 18 #[.agg row.toArray, lv] w fun e w' => ∃ row', e = .returned (.agg row'.toArray) ∧ RApp Any w' row' (runA a ys) ∧ Below w.heap.size w w' := by
  have le := Nat.le_refl w.heap.size
  have hall := h
  obtain ⟨ve, vl, vs, rfl, h1, h2, h3⟩ := h
  clear h1 h2 h3
  obtain ⟨w0, hw0⟩ : ∃ w0, w0 = (w.alloc (.cells #[.int .i64 a.1, ve, vl, vs] 26)).alloc (.cells #[.int .i64 0, .slice none 0 0, .slice none 0 0, .slice none 0 0] 26) := ⟨_, rfl⟩
  have ra : Row w0 w.heap.size 26 [.int .i64 a.1, ve, vl, vs] := by rw [hw0]; exact rowA (Row.new w 26 _) _
  have rs : Row w0 (w.heap.size + 1) 26 [.int .i64 0, .slice none 0 0, .slice none 0 0, .slice none 0 0] := by
    rw [hw0]
    have := Row.new (w.alloc (.cells #[.int .i64 a.1, ve, vl, vs] 26)) 26 [.int .i64 0, .slice none 0 0, .slice none 0 0, .slice none 0 0]
    simpa using this
  have B0 : Below w.heap.size w w0 := by rw [hw0]; exact below_and (below_alloc _ _) le (below_alloc _ _)
  have h0 : RApp (Nb w) w0 [.int .i64 a.1, ve, vl, vs] a := mov_app _ _ _ _ _ _ hall B0.size (fun k hk hlt => ⟨B0.block k hlt, nb_lt hlt⟩)
  have I0 := (show Hid (runA a ys = runA a (ys.drop 0)) from rfl)
  obtain ⟨al, cl, rfl, hcl⟩ := hx.form
  have hlm : (ys.length : Int) ≤ 9223372036854775807 := by
    rcases Nat.eq_zero_or_pos ys.length with h0 | h0
    · omega
    · obtain ⟨_, _, cap, _, hc, hm, _⟩ := hx.at h0
      unfold maxLen at hm
      omega
  obtain ⟨N, hN⟩ : ∃ N, N = ys.length := ⟨_, rfl⟩
  have HH2 := (show Hid (∀ (q : Nat) (y : PReq), ys[q]? = some y → ∃ bb off cap, Value.slice al N cl = .slice (some ⟨bb, off, none⟩) N cap ∧ ∃ o g, o.oneCell' = true ∧ g.oneCell' = true ∧ szQ y ∧ ∀ u, Below w.heap.size w u → u.rangeAt bb (off + q * 4) [.int .i64 y.1, .int .i64 y.2.1, o, g] ∧ RReq (Nb w) u [.int .i64 y.1, .int .i64 y.2.1, o, g] y) from fun q y hy => by
    have hl : 0 < ys.length := by have := (List.getElem?_eq_some_iff.1 hy).1; omega
    obtain ⟨bb, off, cap, e, hc, hm, _, hb, hx'⟩ := hx.at hl
    obtain ⟨r, _, hr, o, g, rfl, t1, t2⟩ := hx' q y hy
    exact ⟨bb, off, cap, by rw [hN]; exact e, o, g, t1.one, t2.one, hz y (List.mem_of_getElem? hy), fun u hu => ⟨rangeAt_block hr (hu.block bb hb), mov_req _ _ _ _ _ _ ⟨o, g, rfl, t1, t2⟩ hu.size (fun k _ hlt => ⟨hu.block k hlt, nb_lt hlt⟩)⟩⟩)
  rw [← hN] at hlm ⊢
  have HN := (show Hid (ys.length = N) from hN.symm)
  clear hN hx hz hcl hall
  go_enter Tryz.func18, Tryz.ntmps18
  go_upto_region 1 with fail
  rw [← hw0]
  clear hw0
  go_wp2_with fail
  go_loopw [9] (fun i wr => ∃ (q : Nat) (bq : PApp) (row : List Value), q ≤ N ∧ i = .int .i64 q ∧ RApp (Nb w) wr row bq ∧ Row wr w.heap.size 26 row ∧ Row wr (w.heap.size + 1) 26 [.int .i64 0, .slice none 0 0, .slice none 0 0, .slice none 0 0] ∧ Below w.heap.size w wr ∧ Hid (runA a ys = runA bq (ys.drop q))) (fun i _ => N - (intOf i).toNat)
  case atStart => exact ⟨0, a, _, by omega, rfl, h0, ra, rs, B0, I0⟩
  case round =>
    clear h0 ra rs B0 I0
    obtain ⟨q, bq, row, hq, rfl, oq, yq, rsq, Bq, HI⟩ := hrel
    have hoq := oq.one
    have oq' := oq
    obtain ⟨veq, vlq, vsq, rfl, u1, u2, u3⟩ := oq'
    clear u1 u2 u3
    by_cases hql : q < N
    · obtain ⟨y, hy⟩ : ∃ y, ys[q]? = some y := ⟨_, List.getElem?_eq_getElem (by have := HN.out; omega)⟩
      obtain ⟨bb, off, cap, e, so, sg, s1, s2, hzy, HR⟩ := HH2.out q y hy
      injection e with e1 e2 e3
      subst e1 e3
      have hrng := (HR wr Bq).1
      have hone := onQ4 (n := y.1) (m := y.2.1) s1 s2
      have hrow0 := Row.new wr 29 [.int .i64 0, .int .i64 0, .slice none 0 0, .slice none 0 0]
      have hqi : (q : Int) < (N : Int) := by omega
      have HNX := (show Hid (runA a ys = runA (applyA bq y).1 (ys.drop (q + 1))) by show _ = _; rw [HI.out, drop_cons hy]; rfl)
      have HRR := (show Hid (∀ u, Below w.heap.size w u → RReq (Nb w) u [.int .i64 y.1, .int .i64 y.2.1, so, sg] y) from fun u hu => (HR u hu).2)
      clear HR e2 hy HI
      go_upto_region 4 with (first
        | (refine wpList_load_mid rfl _ _ rfl bb (off + q * 4) rfl [.int .i64 y.1, .int .i64 y.2.1, so, sg] _ hrng Tryz.underlying29 rfl (by kernel_rfl) ?_)
        | (refine wl_store rfl _ _ _ rfl wr.heap.size [.int .i64 y.1, .int .i64 y.2.1, so, sg] rfl rfl _ _ hrow0 rfl (by kernel_rfl) hone ?_; intro w5 hr5 hg5))
      have hr5 := hr5.out
      have hb5 : Below wr.heap.size wr w5 := (below_alloc wr (.cells ([.int .i64 0, .int .i64 0, .slice none 0 0, .slice none 0 0] : List Value).toArray 29)).trans (grown_below hg5 (by simp) (fun k hk => by cases hk; exact Nat.le_refl _))
      have y5 := yq.below hb5
      have rs5 := rsq.below hb5
      have o5 := mov_app _ _ _ _ _ _ oq hb5.size (Mv.belowG hb5)
      have B5 := below_and Bq le hb5
      obtain ⟨gb, hgb⟩ : ∃ gb, gb = wr.heap.size := ⟨_, rfl⟩
      rw [← hgb] at hr5 ⊢
      have hAp := refApply_any (GG := Nb w) w5 (fun k hk => by have := rs5.lt; exact ⟨by omega, by omega⟩) _ bq o5 _ y (HRR.out w5 B5) hzy
      clear hrng hone hrow0 hg5 yq oq hgb rsq HRR hzy hoq
      generalize applyA bq y = S at *
      go_wp2_with (first
        | (refine wl_load rfl _ _ rfl w.heap.size rfl _ _ y5 _ Tryz.underlying26 rfl (by kernel_rfl) ?_)
        | (refine wl_load rfl _ _ rfl gb rfl _ _ hr5 _ Tryz.underlying29 rfl (by kernel_rfl) ?_)
        | (go_at_call 9; refine hAp.mono ?_; rintro e w6 ⟨r6, vv6, rfl, o6, t6, hb6⟩; have one6 := o6.one; have o6' := o6; obtain ⟨v1, v2, v3, rfl, _, _, _⟩ := o6'; obtain ⟨av6, cv6, rfl, _⟩ := t6.form; have y6 := y5.below hb6)
        | (refine wl_store rfl _ _ _ rfl w.heap.size [.int .i64 S.1.1, v1, v2, v3] rfl rfl _ _ y6 rfl (by kernel_rfl) one6 ?_; intro w7 hr7 hg7))
      have B6 := below_and B5 le hb6
      go_roundw
      case rel => exact ⟨q + 1, S.1, _, by omega, by go_num, mov_app _ _ _ _ _ _ o6 hg7.size (fun k hk hlt => ⟨hg7.block k hlt (fun e => by injection e with e; first | exact hk.1 e | exact hk.1 e.symm), hk⟩), hr7.out, (rs5.below hb6).grown hg7 (fun e => by injection e with e; omega), B6.trans (grown_below hg7 B6.size (fun k hk => by cases hk; omega)), HNX⟩
      case measure => simp [intOf]; omega
    · have hqd : decide ((q : Int) < N) = false := by simp; omega
      have HNG := (show Hid (runA a ys = bq) by show _ = _; rw [HI.out, List.drop_of_length_le (by have := HN.out; omega)]; rfl)
      clear HI
      go_wp2_with (first
        | (refine wl_load rfl _ _ rfl w.heap.size rfl _ _ yq _ Tryz.underlying26 rfl (by kernel_rfl) ?_)
        | (refine wl_store rfl _ _ _ rfl (w.heap.size + 1) [.int .i64 bq.1, veq, vlq, vsq] rfl rfl _ _ rsq rfl (by kernel_rfl) hoq ?_; intro w7 hr7 hg7))
      refine bodyPost_ret (v := .agg ([.int .i64 bq.1, veq, vlq, vsq] : List Value).toArray) (results_cell_row rfl _ _ (w.heap.size + 1) _ _ (0, 0) _ (by rfl) hr7.out Tryz.underlying26 rfl (by kernel_rfl)) rfl ?_
      rw [HNG.out]
      exact ⟨_, rfl, mov_app _ _ _ _ _ _ oq hg7.size (fun k hk hlt => ⟨hg7.block k hlt (fun e => by injection e with e; first | exact hk.2 e | exact hk.2 e.symm), trivial⟩), Bq.trans (grown_below hg7 Bq.size (fun k hk => by cases hk; omega))⟩
end Go.Proofs.YtmmcgafmhadioaaGreat
end

section
set_option linter.unusedVariables false
set_option linter.unusedSimpArgs false
namespace Go.Proofs.YtmmcgafmhadioaaGreat
open Go.RowKit Oct Kvl

theorem Tryz.inf_reqR : (Tryz.prog.info? 29).map (fun i => (i.zero, i.size, i.bytes)) = some (some (.agg #[.int .i64 0, .int .i64 0, .slice none 0 0, .slice none 0 0]), 4, 64) := by kernel_rfl
theorem lenRQ {G : Nat → Prop} {w : World} {r : List Value} {a : PReq} (h : RReq G w r a) : r.length = 4 := by obtain ⟨_, _, rfl, _⟩ := h; rfl
theorem oneRQ {G : Nat → Prop} {w : World} {r : List Value} {a : PReq} (h : RReq G w r a) : ∀ u ∈ r, u.oneCell' = true := by obtain ⟨_, _, rfl, h1, h2⟩ := h; exact onQ4 h1.one h2.one
theorem takeR {α : Type} (ys : List α) (q : Nat) (a : α) (h : ys[q]? = some a) : ys.take (q + 1) = ys.take q ++ [a] := by
  rw [List.take_add_one, h]; rfl

set_option maxRecDepth 10000 in
set_option maxHeartbeats 16000000 in
theorem runsA_any (w : World) (r0 : List Value) (a : PApp) (lv : Value) (ys : List PReq) (h0 : RApp Any w r0 a) (h2 : RL RReq 4 Any w lv ys) (z0 : szA a) (z2 : szL 64 szQ ys) :
    Calls Tryz.prog 4 #[.agg r0.toArray, lv] w fun e w' => e = .returned (.bool true) ∧ Below w.heap.size w w' := by
  have le := Nat.le_refl w.heap.size
  have hall := h0
  have h2all := h2
  obtain ⟨ve, vl, vs, rfl, e1, e2, e3⟩ := h0
  clear e1 e2 e3
  obtain ⟨al, cl, rfl, hcl⟩ := h2.form
  obtain ⟨N, hN⟩ : ∃ N, N = ys.length := ⟨_, rfl⟩
  rw [← hN] at h2all ⊢
  have HH2 := (show Hid (∀ (q : Nat) (y : PReq), ys[q]? = some y → ∃ bb off cap, Value.slice al N cl = .slice (some ⟨bb, off, none⟩) N cap ∧ ∃ o g, o.oneCell' = true ∧ g.oneCell' = true ∧ szQ y ∧ ∀ u, Below w.heap.size w u → u.rangeAt bb (off + q * 4) [.int .i64 y.1, .int .i64 y.2.1, o, g] ∧ RReq Any u [.int .i64 y.1, .int .i64 y.2.1, o, g] y) from fun q y hy => by
    have hl : 0 < ys.length := by have := (List.getElem?_eq_some_iff.1 hy).1; omega
    obtain ⟨bb, off, cap, e, hc, hm, _, hb, hx'⟩ := h2.at hl
    obtain ⟨r, _, hr, o, g, rfl, t1, t2⟩ := hx' q y hy
    exact ⟨bb, off, cap, by rw [hN]; exact e, o, g, t1.one, t2.one, z2.2 y (List.mem_of_getElem? hy), fun u hu => ⟨rangeAt_block hr (hu.block bb hb), mov_req _ _ _ _ _ _ ⟨o, g, rfl, t1, t2⟩ hu.size (fun k _ hlt => ⟨hu.block k hlt, trivial⟩)⟩⟩)
  have HZ := (show Hid (∀ y ∈ ys, szQ y) from z2.2)
  have HN := (show Hid (ys.length = N) from hN.symm)
  clear hN h2 hcl z2
  obtain ⟨w0, hw0⟩ : ∃ w0, w0 = w.alloc (.cells #[.int .i64 a.1, ve, vl, vs] 26) := ⟨_, rfl⟩
  have xa : Row w0 w.heap.size 26 [.int .i64 a.1, ve, vl, vs] := by rw [hw0]; exact Row.new w 26 _
  have B0 : Below w.heap.size w w0 := by rw [hw0]; exact below_alloc _ _
  by_cases h200 : 200 < N
  · have h200' : decide ((200 : Int) < N) = true := by simp; omega
    have hlm : (N : Int) ≤ 9223372036854775807 := by
      obtain ⟨_, _, cap, _, hc, hm, _⟩ := h2all.at (by have := HN.out; omega)
      have := HN.out
      unfold maxLen at hm
      omega
    go_enter Tryz.func4, Tryz.ntmps4
    go_upto_region 1 with fail
    rw [← hw0]
    clear hw0
    go_wp2_with (go_at_call 5; refine (sessionAlive_any w0).mono ?_; rintro e w1 ⟨rfl, hb1⟩)
    go_ret
    exact ⟨rfl, below_and B0 le hb1⟩
  have h200' : decide ((200 : Int) < N) = false := by simp; omega
  go_enter Tryz.func4, Tryz.ntmps4
  go_upto_region 1 with fail
  rw [← hw0]
  clear hw0
  go_upto_region 5 with (go_at_call 5; refine (sessionAlive_any w0).mono ?_; rintro e w1 ⟨rfl, hb1⟩)
  have B1 := below_and B0 le hb1
  have xa := xa.below hb1
  clear hb1 B0
  go_wp2_with fail
  go_loopw [5, 16] (fun v i wr => ∃ q : Nat, q ≤ N ∧ i = .int .i64 q ∧ LB RReq 29 4 w1.heap.size wr v (ys.take q) ∧ Below w1.heap.size w1 wr) (fun _ i _ => N - (intOf i).toNat)
  case atStart => exact ⟨0, by omega, rfl, LB.fresh _ _ _ _ _ (Nat.le_refl _), below_alloc w1 _⟩
  case round =>
    obtain ⟨q, hq, rfl, hLB, hbr⟩ := hrel
    have Br := below_and B1 le hbr
    by_cases hql : q < N
    · obtain ⟨y, hy⟩ : ∃ y, ys[q]? = some y := ⟨_, List.getElem?_eq_getElem (by have := HN.out; omega)⟩
      obtain ⟨bb, off, cap, e, so, sg, s1, s2, hzy, HR⟩ := HH2.out q y hy
      injection e with e1 e2 e3
      subst e1 e3
      have hrng := (HR wr Br).1
      have hone := onQ4 (n := y.1) (m := y.2.1) s1 s2
      have hrow0 := Row.new wr 29 [.int .i64 0, .int .i64 0, .slice none 0 0, .slice none 0 0]
      have hqi : (q : Int) < (N : Int) := by omega
      have HA := (show Hid (ys.take (q + 1) = ys.take q ++ [y]) from takeR ys q y hy)
      have HTL := (show Hid ((ys.take q).length = q) by show _ = _; rw [List.length_take]; have := HN.out; omega)
      have HRR := (show Hid (∀ u, Below w.heap.size w u → RReq Any u [.int .i64 y.1, .int .i64 y.2.1, so, sg] y) from fun u hu => (HR u hu).2)
      clear HR e2 hy
      go_upto_region 9 with (first
        | (refine wpList_load_mid rfl _ _ rfl bb (off + q * 4) rfl [.int .i64 y.1, .int .i64 y.2.1, so, sg] _ hrng Tryz.underlying29 rfl (by kernel_rfl) ?_)
        | (refine wl_store rfl _ _ _ rfl wr.heap.size [.int .i64 y.1, .int .i64 y.2.1, so, sg] rfl rfl _ _ hrow0 rfl (by kernel_rfl) hone ?_; intro w5 hr5 hg5))
      have hr5 := hr5.out
      have hb5 : Below wr.heap.size wr w5 := (below_alloc wr (.cells ([.int .i64 0, .int .i64 0, .slice none 0 0, .slice none 0 0] : List Value).toArray 29)).trans (grown_below hg5 (by simp) (fun k hk => by cases hk; exact Nat.le_refl _))
      have hB5 := below_and hbr (Nat.le_refl _) hb5
      have B5 := below_and B1 le hB5
      have hLB5 := hLB.below mov_req hb5
      have hlt5 := hLB5.lt
      have hfr := hLB.fr
      have hC := copyReq_any w5 [.int .i64 y.1, .int .i64 y.2.1, so, sg] y (HRR.out w5 B5) hzy
      obtain ⟨gb, hgb⟩ : ∃ gb, gb = wr.heap.size := ⟨_, rfl⟩
      rw [← hgb] at hr5 ⊢
      clear hrng hone hrow0 hg5 hgb hLB hzy HRR
      go_wp2_with (first
        | (refine wl_load rfl _ _ rfl gb rfl _ _ hr5 _ Tryz.underlying29 rfl (by kernel_rfl) ?_)
        | (go_at_call 7; refine hC.mono ?_; rintro e w6 ⟨r6, rfl, hR6, hb6⟩; have k6 := oneRQ hR6; have l6 := lenRQ hR6; have hR6' := hR6; obtain ⟨q1, q2, rfl, t1, t2⟩ := hR6'; have hLB6 := hLB5.below mov_req hb6; have hB6 := below_and hB5 (Nat.le_refl _) hb6)
        | (at_builtin; refine wl_push mov_req rfl _ _ _ rfl 29 4 64 _ Tryz.underlying46 Tryz.inf_reqR rfl (by decide) w1.heap.size u5 (ys.take q) rfl hLB6 [.int .i64 y.1, .int .i64 y.2.1, q1, q2] y w5.heap.size hR6 l6 k6 hB5.size hlt5 rfl hB6.size (by rw [HTL.out]; omega) (by decide) ?_; intro v7 w7 hLB7 hg7))
      rw [← HA.out] at hLB7
      go_roundw
      case rel => exact ⟨q + 1, by omega, by go_num, hLB7, hB6.trans (grown_below hg7 hB6.size (fun k hk => hfr k hk))⟩
      case measure => simp [intOf]; omega
    · have hqd : decide ((q : Int) < N) = false := by simp; omega
      rw [List.take_of_length_le (by have := HN.out; omega)] at hLB
      have hown := (hLB.rl mov_req)
      have hown := hown.mv mov_req (Nat.le_refl _) Mv.any
      have xr := xa.below hbr
      have c0 := xr.cell (j := 0) rfl
      have c1 := xr.cell (j := 1) rfl
      have c2 := xr.cell (j := 2) rfl
      have c3 := xr.cell (j := 3) rfl
      obtain ⟨R, hR⟩ : ∃ R, R = runA a ys := ⟨_, rfl⟩
      have H0 := (show Hid (∀ u, Below wr.heap.size wr u → RApp Any u [.int .i64 a.1, ve, vl, vs] a) from fun u hu => hall.below (below_and Br le hu))
      have HC := (show Hid (∀ u, Below wr.heap.size wr u → Calls Tryz.prog 6 #[.agg #[.int .i64 a.1, ve, vl, vs]] u fun e w' => ∃ r', e = .returned (.agg r') ∧ Hid (∀ z, Below w'.heap.size w' z → RApp Any z r'.toList a) ∧ Below u.heap.size u w' ∧ Below wr.heap.size wr w') from fun u hu => (refCopyA_any u _ a (H0.out u hu) z0).mono (by
        rintro e w' ⟨r', e1, e2, e3⟩
        exact ⟨_, e1, fun z hz => by have t : RApp Any z r' a := mov_app _ _ _ _ _ _ e2 hz.size (fun k hk hlt => ⟨hz.block k hlt, trivial⟩); simpa using t, e3, below_and hu (Nat.le_refl _) e3⟩))
      have HP := (show Hid (∀ (u : World) (r : Array Value), Below wr.heap.size wr u → RApp Any u r.toList a → Calls Tryz.prog 17 #[.agg r, u5] u fun e w' => ∃ r', e = .returned (.agg r') ∧ Hid (∀ z, Below w'.heap.size w' z → RApp Any z r'.toList R) ∧ Below u.heap.size u w' ∧ Below wr.heap.size wr w') from fun u r hu g => (run_any u r.toList a g z0 _ ys (hown.mv mov_req hu.size (Mv.below hu)) HZ.out).mono (by
        rintro e w' ⟨r', e1, e2, e3⟩
        exact ⟨_, e1, fun z hz => by rw [hR]; simpa using (e2.app.below hz), e3, below_and hu (Nat.le_refl _) e3⟩))
      have HF := (show Hid (∀ (u : World), Below wr.heap.size wr u → Calls Tryz.prog 18 #[.agg #[.int .i64 a.1, ve, vl, vs], .slice al N cl] u fun e w' => ∃ r', e = .returned (.agg r') ∧ Hid (∀ z, Below w'.heap.size w' z → RApp Any z r'.toList R) ∧ Below u.heap.size u w' ∧ Below wr.heap.size wr w') from fun u hu => (refRun_any u _ a (H0.out u hu) _ ys (h2all.mv mov_req (below_and Br le hu).size (Mv.below (below_and Br le hu))) HZ.out).mono (by
        rintro e w' ⟨r', e1, e2, e3⟩
        exact ⟨_, e1, fun z hz => by rw [hR]; simpa using (e2.below hz), e3, below_and hu (Nat.le_refl _) e3⟩))
      have HS := (show Hid (∀ (u : World) (r1 r2 : Array Value), Below wr.heap.size wr u → RApp Any u r1.toList R → RApp Any u r2.toList R → Calls Tryz.prog 14 #[.agg r1, .agg r2] u fun e w' => e = .returned (.bool true) ∧ Below wr.heap.size wr w') from fun u r1 r2 hu g1 g2 => (sameA_eq u r1.toList r2.toList R g1 g2).mono (by
        rintro e w' ⟨e1, e3⟩
        exact ⟨e1, below_and hu (Nat.le_refl _) e3⟩))
      have SK := (show Hid (∀ u, Below wr.heap.size wr u → u.cell? ⟨w.heap.size, 0, none⟩ = some (.int .i64 a.1) ∧ u.cell? ⟨w.heap.size, 1, none⟩ = some (ve) ∧ u.cell? ⟨w.heap.size, 2, none⟩ = some (vl) ∧ u.cell? ⟨w.heap.size, 3, none⟩ = some (vs)) from fun u hu => ⟨(xr.below hu).cell (j := 0) rfl, (xr.below hu).cell (j := 1) rfl, (xr.below hu).cell (j := 2) rfl, (xr.below hu).cell (j := 3) rfl⟩)
      have hdw : Below wr.heap.size wr wr.drew := ⟨rfl, rfl, rfl, Nat.le_refl _, fun _ _ => rfl⟩
      clear hR hLB hown H0 hall h2all
      go_wp2_with fail
      go_region_held3 (fun u => u.cell? ⟨w.heap.size, 0, none⟩ = some (.int .i64 a.1) ∧ u.cell? ⟨w.heap.size, 1, none⟩ = some (ve) ∧ u.cell? ⟨w.heap.size, 2, none⟩ = some (vl) ∧ u.cell? ⟨w.heap.size, 3, none⟩ = some (vs))
        (first | (with_reducible exact SK.out w6 hB6) | (with_reducible exact SK.out w5 hB5) | (with_reducible exact SK.out w4 hB4) | (with_reducible exact SK.out w3 hB3) | (with_reducible exact SK.out wr (Below.refl _ _)) | (with_reducible exact SK.out wr.drew hdw) | go_keep)
        (first
          | (go_at_call 14; refine (HS.out _ _ _ (by first | (with_reducible exact hB5) | (with_reducible exact hB5.drew)) (r4'.out _ (by first | (with_reducible exact hb5) | (with_reducible exact hb5.drew))) (r5'.out _ (by first | (with_reducible exact Below.refl _ _) | (with_reducible exact (Below.refl _ _).drew)))).mono ?_; rintro e w6 ⟨rfl, hB6⟩)
          | (go_at_call 18; refine (HF.out _ (by first | (with_reducible exact hB4) | (with_reducible exact hB4.drew))).mono ?_; rintro e w5 ⟨r5, rfl, r5', hb5, hB5⟩)
          | (go_at_call 17; refine (HP.out _ _ (by first | (with_reducible exact hB3) | (with_reducible exact hB3.drew)) (r3'.out _ (by first | (with_reducible exact Below.refl _ _) | (with_reducible exact (Below.refl _ _).drew)))).mono ?_; rintro e w4 ⟨r4, rfl, r4', hb4, hB4⟩)
          | (go_at_call 6; refine (HC.out _ (by first | (with_reducible exact Below.refl _ _) | (with_reducible exact hdw))).mono ?_; rintro e w3 ⟨r3, rfl, r3', hb3, hB3⟩))
      all_goals (
        go_wp2_with fail
        go_ret
        exact ⟨rfl, below_and Br le hB6⟩)
end Go.Proofs.YtmmcgafmhadioaaGreat
end
