/- The document's Same, of two states alike. -/
import Derived.Test.YteafgdidjdfiiaaGreatJ04
import Derived.Test.YteafgdidjdfiiaaGreatJ16
import Derived.Deep.Cut
import Derived.Deep.RegionHeld3
import Derived.Test.YteafgdidjdfiiaaGreatJ09
import Derived.Test.YteafgdidjdfiiaaGreatW2
import Derived.BigQuiet
import Derived.Deep.QuietTactic
section
set_option linter.unusedVariables false
set_option linter.unusedSimpArgs false
namespace Go.Proofs.YteafgdidjdfiiaaGreat
open Go.RowKit Oct Kvl

/-- What lies in blocks from u to v. -/
def Rng (u v : Nat) : Nat → Prop := fun k => u ≤ k ∧ k < v
theorem rl_rng {α : Type} {R : (Nat → Prop) → World → List Value → α → Prop} (hR : ∀ G w r a, R G w r a → R (fun k => G k ∧ k < w.heap.size) w r a) {k : Nat} {G : Nat → Prop} {w : World} {v : Value} {ys : List α} (h : RL R k G w v ys) : RL R k (fun k => G k ∧ k < w.heap.size) w v ys := by
  obtain ⟨rows, ⟨h1, h2⟩, h3⟩ := h
  refine ⟨rows, ⟨h1, ?_⟩, h3.mono fun r a h => hR _ _ _ _ h⟩
  rcases h2 with h2 | ⟨b, off, cap, e1, e2, e3, e4, e5, e6, e7⟩
  · exact .inl h2
  · exact .inr ⟨b, off, cap, e1, e2, e3, e4, ⟨e5, e6⟩, e6, e7⟩
theorem rt_rng {G : Nat → Prop} {w : World} {v : Value} {l : List Int} (h : RT G w v l) : RT (fun k => G k ∧ k < w.heap.size) w v l := ⟨h.1, fun hx k hk => ⟨h.2 hx k hk, h.1.lt hx k hk⟩⟩
theorem ent_rng (G : Nat → Prop) (w : World) (r : List Value) (a : PEnt) (h : REnt G w r a) : REnt (fun k => G k ∧ k < w.heap.size) w r a := by
  obtain ⟨x, y, e, h1, h2⟩ := h
  exact ⟨x, y, e, rt_rng h1, rt_rng h2⟩
theorem lea_rng (G : Nat → Prop) (w : World) (r : List Value) (a : PEnt) (h : RLea G w r a) : RLea (fun k => G k ∧ k < w.heap.size) w r a := by
  obtain ⟨x, p, q, e, h1, h2⟩ := h
  exact ⟨x, p, q, e, rt_rng h1, h2⟩
theorem bel_set4 {B b : Nat} {w u : World} {x0 x1 x2 x3 : Value} (h : Below B w u) (hw : B ≤ w.heap.size) (hb : B ≤ b) : Below B w ((((u.setCell ⟨b, 0, none⟩ x0).setCell ⟨b, 1, none⟩ x1).setCell ⟨b, 2, none⟩ x2).setCell ⟨b, 3, none⟩ x3) :=
  h.trans (grown_below (grown_trans (grown_trans (grown_trans (grown_set u b 0 x0) (grown_set _ b 1 x1) (.inl rfl)) (grown_set _ b 2 x2) (.inl rfl)) (grown_set _ b 3 x3) (.inl rfl)) (Nat.le_trans hw h.size) (fun k hk => by cases hk; exact hb))
theorem set4_row {w : World} {b : Nat} {t : TypeId} {x0 x1 x2 x3 v0 v1 v2 v3 : Value} (h : Row w b t [x0, x1, x2, x3]) : Row ((((w.setCell ⟨b, 0, none⟩ v0).setCell ⟨b, 1, none⟩ v1).setCell ⟨b, 2, none⟩ v2).setCell ⟨b, 3, none⟩ v3) b t [v0, v1, v2, v3] ∧ w.grownBy ((((w.setCell ⟨b, 0, none⟩ v0).setCell ⟨b, 1, none⟩ v1).setCell ⟨b, 2, none⟩ v2).setCell ⟨b, 3, none⟩ v3) (some b) :=
  ⟨(((h.set 0 v0).set 1 v1).set 2 v2).set 3 v3, grown_trans (grown_trans (grown_trans (grown_set w b 0 v0) (grown_set _ b 1 v1) (.inl rfl)) (grown_set _ b 2 v2) (.inl rfl)) (grown_set _ b 3 v3) (.inl rfl)⟩

theorem mvG {N b lo : Nat} {w w' : World} {row : Option Nat} (hg : w.grownBy w' row) (hr : ∀ k, row = some k → k = b ∨ N ≤ k) : Mv (fun k => lo ≤ k ∧ k < N ∧ k ≠ b) (fun k => lo ≤ k ∧ k < N ∧ k ≠ b) w w' := fun k hk hlt => ⟨hg.block k hlt (fun e => by rcases hr k e.symm with h | h; exact hk.2.2 h; have := hk.2.1; omega), hk⟩
theorem set4_keep {u : World} {b : Nat} {x y z t v : Value} {a : Addr} (h : u.cell? a = some v) (hn : ¬ (a.block = b)) : ((((u.setCell ⟨b, 0, none⟩ x).setCell ⟨b, 1, none⟩ y).setCell ⟨b, 2, none⟩ z).setCell ⟨b, 3, none⟩ t).cell? a = some v :=
  grown_cellE (grown_trans (grown_trans (grown_trans (grown_set u b 0 x) (grown_set _ b 1 y) (.inl rfl)) (grown_set _ b 2 z) (.inl rfl)) (grown_set _ b 3 t) (.inl rfl)) h (fun e => hn (Option.some.inj e).symm)
end Go.Proofs.YteafgdidjdfiiaaGreat
end

section
set_option linter.unusedVariables false
set_option linter.unusedSimpArgs false
namespace Go.Proofs.YteafgdidjdfiiaaGreat
open Go.RowKit Oct Kvl



set_option maxHeartbeats 2000000 in
/-- The document's Same, of the same leases. -/
theorem sameS_eq (w : World) (u v : Value) (ys : List PEnt) (h1 : RL RLea 3 Any w u ys) (h2 : RL RLea 3 Any w v ys) :
    Calls Tryz.prog 37 #[u, v] w fun e w' => e = .returned (.bool true) ∧ Below w.heap.size w w' := by
  by_cases hl : 0 < ys.length
  · obtain ⟨b1, o1, c1, rfl, hc1, hm1, _, hb1, hx1⟩ := h1.at hl
    obtain ⟨b2, o2, c2, rfl, hc2, hm2, _, hb2, hx2⟩ := h2.at hl
    have H1 := (show Hid (∀ (i : Nat) (a : PEnt), ys[i]? = some a → ∃ r, r.length = 3 ∧ w.rangeAt b1 (o1 + i * 3) r ∧ RLea Any w r a) from hx1)
    have H2 := (show Hid (∀ (i : Nat) (a : PEnt), ys[i]? = some a → ∃ r, r.length = 3 ∧ w.rangeAt b2 (o2 + i * 3) r ∧ RLea Any w r a) from hx2)
    have hlm : (ys.length : Int) ≤ 9223372036854775807 := by unfold maxLen at hm1; omega
    clear hx1 hx2 h1 h2
    go_enter Tryz.func37, Tryz.ntmps37
    go_wp2_with fail
    go_loopw [13] (fun i wr => ∃ q : Nat, q ≤ ys.length ∧ i = .int .i64 q ∧ Below w.heap.size w wr) (fun i _ => ys.length - (intOf i).toNat)
    case atStart => exact ⟨0, by omega, rfl, Below.refl _ _⟩
    case round =>
      obtain ⟨q, hq, rfl, hB⟩ := hrel
      by_cases hql : q < ys.length
      · obtain ⟨a, ha⟩ : ∃ a, ys[q]? = some a := ⟨_, List.getElem?_eq_getElem hql⟩
        obtain ⟨r1, _, g1, s1, p1, q1, rfl, t1, t2⟩ := H1.out q a ha
        obtain ⟨r2, _, g2, s3, p2, q2, rfl, t3, t4⟩ := H2.out q a ha
        have d0 := rangeAt_block g1 (hB.block b1 hb1) 0 _ rfl
        have d1 := rangeAt_block g1 (hB.block b1 hb1) 1 _ rfl
        have d2 := rangeAt_block g2 (hB.block b2 hb2) 0 _ rfl
        have d3 := rangeAt_block g2 (hB.block b2 hb2) 1 _ rfl
        simp only [Nat.add_zero] at d0 d2
        have hS := (show Hid (∀ u, Below w.heap.size w u → Calls Tryz.prog 67 #[s1, s3] u fun e w' => e = .returned (.bool true) ∧ w' = u) from fun u hu => by
          have := same_any u s1 s3 _ _ (t1.mv (Mv.below hu)).1 (t3.mv (Mv.below hu)).1
          rw [decide_eq_true rfl] at this
          exact this)
        have d4 := rangeAt_block g1 (hB.block b1 hb1) 2 _ rfl
        have d5 := rangeAt_block g2 (hB.block b2 hb2) 2 _ rfl
        rw [t2] at t4
        injection t4 with u1 u2
        injection u2 with u2 _
        subst u1 u2
        have hp : (p1 != p1) = false := by simp
        have hq' : (q1 != q1) = false := by simp
        clear g1 g2 t1 t2 t3 ha
        go_wp2_with fail
        go_big_quiet ((go_at_call 67; exact quiet_as (hS.out _ (bel_dnE hB _)) rfl))
        go_wp2_with fail
        go_roundw
        case rel => exact ⟨q + 1, by omega, by go_num, bel_dnE hB _⟩
        case measure => simp [intOf]; omega
      · go_wp2_with fail
        go_ret
        exact ⟨rfl, hB⟩
  · obtain rfl : ys = [] := List.eq_nil_of_length_eq_zero (by omega)
    obtain ⟨ao, c1, rfl, _⟩ := h1.form
    obtain ⟨bo, c2, rfl, _⟩ := h2.form
    go_enter Tryz.func37, Tryz.ntmps37
    go_wp2_with fail
    refine wp_loop_rounds 1 ?_; rw [rounds_succ]
    go_wp2_with fail
    go_ret
    exact ⟨rfl, Below.refl _ _⟩

end Go.Proofs.YteafgdidjdfiiaaGreat
end

section
set_option linter.unusedVariables false
set_option linter.unusedSimpArgs false
namespace Go.Proofs.YteafgdidjdfiiaaGreat
open Go.RowKit Oct Kvl

set_option maxRecDepth 10000 in
set_option maxHeartbeats 8000000 in
/-- The document's Same. -/
theorem sameA_eq (w : World) (r1 r2 : List Value) (a : PApp) (h : RApp Any w r1 a) (k : RApp Any w r2 a) :
    Calls Tryz.prog 14 #[.agg r1.toArray, .agg r2.toArray] w fun e w' => e = .returned (.bool true) ∧ Below w.heap.size w w' := by
  have le := Nat.le_refl w.heap.size
  obtain ⟨ve, vl, vs, rfl, h1, h2, h3⟩ := h
  obtain ⟨ue, ul, us, rfl, k1, k2, k3⟩ := k
  obtain ⟨asv, cs, rfl, hcs⟩ := h3.form
  obtain ⟨asu, cu, rfl, hcu⟩ := k3.form
  obtain ⟨w2, hw2⟩ : ∃ w2, w2 = (w.alloc (.cells #[.int .i64 a.1, ve, vl, .slice asv a.2.2.2.length cs] 27)).alloc (.cells #[.int .i64 a.1, ue, ul, .slice asu a.2.2.2.length cu] 27) := ⟨_, rfl⟩
  have ra : Row w2 w.heap.size 27 [.int .i64 a.1, ve, vl, .slice asv a.2.2.2.length cs] := by rw [hw2]; exact rowA (Row.new w 27 _) _
  have rb : Row w2 (w.heap.size + 1) 27 [.int .i64 a.1, ue, ul, .slice asu a.2.2.2.length cu] := by
    rw [hw2]
    have := Row.new (w.alloc (.cells #[.int .i64 a.1, ve, vl, .slice asv a.2.2.2.length cs] 27)) 27 [.int .i64 a.1, ue, ul, .slice asu a.2.2.2.length cu]
    simpa using this
  have hB : Below w.heap.size w w2 := by rw [hw2]; exact ((Below.refl _ w).alloc (Nat.le_refl _) _).alloc (by simp) _
  have hsz : w2.heap.size = w.heap.size + 2 := by rw [hw2]; simp
  have hS1 := sameE_eq w2 ve ue _ (h1.mv mov_ent hB.size (Mv.below hB)) (k1.mv mov_ent hB.size (Mv.below hB))
  have HS2 := (show Hid (∀ u, Below w.heap.size w u → Calls Tryz.prog 37 #[vl, ul] u fun e w' => e = .returned (.bool true) ∧ Below u.heap.size u w') from fun u hu => sameS_eq u vl ul _ (h2.mv mov_lea hu.size (Mv.below hu)) (k2.mv mov_lea hu.size (Mv.below hu)))
  have hn1 : (a.1 != a.1) = false := by simp
  have hlm : (a.2.2.2.length : Int) ≤ 9223372036854775807 := by
    have := h3.at
    rcases Nat.eq_zero_or_pos a.2.2.2.length with h0 | h0
    · omega
    · obtain ⟨_, _, cap, _, hc, hm, _⟩ := h3.at h0
      unfold maxLen at hm
      omega
  generalize hys : a.2.2.2 = ys at *
  obtain ⟨N, hN⟩ : ∃ N, N = ys.length := ⟨_, rfl⟩
  have hn2 : ((N : Int) != N) = false := by simp
  rw [← hN] at ra rb hw2 hlm ⊢
  have HH3 := (show Hid (RL RSes 4 Any w (.slice asv N cs) ys) by rw [hN]; exact h3)
  have HK3 := (show Hid (RL RSes 4 Any w (.slice asu N cu) ys) by rw [hN]; exact k3)
  have HN := (show Hid (ys.length = N) from hN.symm)
  have c0 := ra.cell (j := 0) rfl
  have c1 := ra.cell (j := 1) rfl
  have d0 := rb.cell (j := 0) rfl
  have d1 := rb.cell (j := 1) rfl
  clear h1 h2 h3 k1 k2 k3 hN
  go_enter Tryz.func14, Tryz.ntmps14
  go_upto_region 1 with fail
  rw [← hw2]
  clear hw2
  go_upto_region 3 with (first
    | (go_at_call 36; refine hS1.mono ?_; rintro e w3 ⟨rfl, hb3⟩; have B3 := below_and hB le hb3; have c2 := (ra.below hb3).cell (j := 2) rfl; have d2 := (rb.below hb3).cell (j := 2) rfl)
    | (go_at_call 37; refine (HS2.out w3 B3).mono ?_; rintro e w4 ⟨rfl, hb4⟩; have c3 := ((ra.below hb3).below hb4).cell (j := 3) rfl; have d3 := ((rb.below hb3).below hb4).cell (j := 3) rfl))
  have b24 := below_and hb3 (Nat.le_refl _) hb4
  have B4 := below_and hB le b24
  have ra4 := ra.below b24
  have rb4 := rb.below b24
  clear c0 c1 d0 d1 c2 d2 hS1 HS2 hb3 hb4 B3 ra rb hB
  rcases Nat.eq_zero_or_pos N with h0 | hl
  · subst h0
    go_wp2_with fail
    refine wp_loop_rounds 1 ?_; rw [rounds_succ]
    go_wp2_with fail
    go_ret
    exact ⟨rfl, B4⟩
  have hl' : 0 < ys.length := by rw [HN.out]; exact hl
  obtain ⟨bb, off, cap, e, hc, hm, _, hbb, hx⟩ := HH3.out.at hl'
  injection e with e1 e2 e3
  obtain ⟨bk, ofk, capk, e', hck, hmk, _, hbk, hxk⟩ := HK3.out.at hl'
  injection e' with e1' e2' e3'
  subst e1 e3 e1' e3'
  have HX := (show Hid (∀ (i : Nat) (a : PEnt), ys[i]? = some a → ∃ r, r.length = 4 ∧ w.rangeAt bb (off + i * 4) r ∧ RSes Any w r a) from hx)
  have HY := (show Hid (∀ (i : Nat) (a : PEnt), ys[i]? = some a → ∃ r, r.length = 4 ∧ w.rangeAt bk (ofk + i * 4) r ∧ RSes Any w r a) from hxk)
  clear hx hxk HH3 HK3 e2 e2' hl' hm hmk hc hck hys
  go_wp2_with fail
  go_loopw [40] (fun i wr => ∃ q : Nat, q ≤ N ∧ i = .int .i64 q ∧ Below w4.heap.size w4 wr) (fun i _ => N - (intOf i).toNat)
  case atStart => exact ⟨0, by omega, rfl, Below.refl _ _⟩
  case round =>
    clear c3 d3
    obtain ⟨q, hq, rfl, hBr⟩ := hrel
    by_cases hql : q < N
    · obtain ⟨x, hx⟩ : ∃ x, ys[q]? = some x := ⟨_, List.getElem?_eq_getElem (by have := HN.out; omega)⟩
      obtain ⟨r, _, hrng, c1, d1, k1, s1, l1, rfl, t1, t2⟩ := HX.out q x hx
      obtain ⟨r', _, hrng', c1', d1', k1', s1', l1', rfl, t1', t2'⟩ := HY.out q x hx
      rw [t2] at t2'
      injection t2' with e1 e2
      injection e1 with e1 _
      injection e2 with e2 e3
      injection e3 with e3 e4
      subst e1 e2 e3 e4
      have Br := below_and B4 le hBr
      have hrng := rangeAt_block hrng (Br.block bb hbb)
      have HRK := (show Hid (∀ u, Below w4.heap.size w4 u → w.heap.size ≤ w.heap.size → u.rangeAt bk (ofk + q * 4) [.int .i64 c1, .int .i64 d1, .int .i64 k1, s1']) from fun u hu _ => rangeAt_block hrng' ((below_and B4 le hu).block bk hbk))
      obtain ⟨a1, cp1, rfl, hc1⟩ := t1.form
      obtain ⟨a2, cp2, rfl, hc2⟩ := t1'.form
      have hrow0 := Row.new wr 77 [.int .i64 0, .int .i64 0, .int .i64 0, .slice none 0 0]
      have hone := onN4 (c := c1) (d := d1) (k := k1) t1.one
      have hd1 : (c1 != c1) = false := by simp
      have hd2 : (d1 != d1) = false := by simp
      have HSR := (show Hid (∀ u, Below w4.heap.size w4 u → Calls Tryz.prog 38 #[.agg #[.int .i64 k1, .slice a1 l1.length cp1], .agg #[.int .i64 k1, .slice a2 l1.length cp2]] u fun e w' => e = .returned (.bool true) ∧ Below u.heap.size u w' ∧ Below w4.heap.size w4 w') from fun u hu => (sameR_eq u k1 _ _ l1 (t1.mv (Mv.below (below_and B4 le hu))).1 (t1'.mv (Mv.below (below_and B4 le hu))).1).mono fun e w' ⟨e1, e2⟩ => ⟨e1, e2, below_and hu (Nat.le_refl _) e2⟩)
      clear hx t2 t1 t1' hrng'
      have hqi : (q : Int) < (N : Int) := by omega
      go_upto_region 6 with (first
        | (refine wpList_load_mid rfl _ _ rfl bb (off + q * 4) rfl [.int .i64 c1, .int .i64 d1, .int .i64 k1, .slice a1 l1.length cp1] _ hrng Tryz.underlying77 rfl (by kernel_rfl) ?_)
        | (refine wl_store rfl _ _ _ rfl wr.heap.size [.int .i64 c1, .int .i64 d1, .int .i64 k1, .slice a1 l1.length cp1] rfl rfl _ _ hrow0 rfl (by kernel_rfl) hone ?_; intro w5 hr5 hg5))
      have hr5 := hr5.out
      have hb5 : Below wr.heap.size wr w5 := (below_alloc wr (.cells ([.int .i64 0, .int .i64 0, .int .i64 0, .slice none 0 0] : List Value).toArray 77)).trans (grown_below hg5 (by simp) (fun k hk => by cases hk; exact Nat.le_refl _))
      have B45 := below_and hBr (Nat.le_refl _) hb5
      obtain ⟨gb, hgb⟩ : ∃ gb, gb = wr.heap.size := ⟨_, rfl⟩
      rw [← hgb] at hr5 ⊢
      have SK := (show Hid (∀ u, Below w5.heap.size w5 u → u.cell? ⟨gb, 0, none⟩ = some (.int .i64 c1) ∧ u.cell? ⟨gb, 1, none⟩ = some (.int .i64 d1) ∧ u.cell? ⟨gb, 2, none⟩ = some (.int .i64 k1) ∧ u.cell? ⟨gb, 3, none⟩ = some (.slice a1 l1.length cp1) ∧ u.cell? ⟨w.heap.size + 1, 3, none⟩ = some (.slice (some ⟨bk, ofk, none⟩) N cu) ∧ u.cell? ⟨bk, ofk + q * 4, none⟩ = some (.int .i64 c1) ∧ u.cell? ⟨bk, ofk + q * 4 + 1, none⟩ = some (.int .i64 d1) ∧ u.cell? ⟨bk, ofk + q * 4 + 2, none⟩ = some (.int .i64 k1) ∧ u.cell? ⟨bk, ofk + q * 4 + 3, none⟩ = some (.slice a2 l1.length cp2)) from fun u hu => ⟨(hr5.below hu).cell (j := 0) rfl, (hr5.below hu).cell (j := 1) rfl, (hr5.below hu).cell (j := 2) rfl, (hr5.below hu).cell (j := 3) rfl, ((rb4.below B45).below hu).cell (j := 3) rfl, HRK.out u (below_and B45 (Nat.le_refl _) hu) le 0 _ rfl, HRK.out u (below_and B45 (Nat.le_refl _) hu) le 1 _ rfl, HRK.out u (below_and B45 (Nat.le_refl _) hu) le 2 _ rfl, HRK.out u (below_and B45 (Nat.le_refl _) hu) le 3 _ rfl⟩)
      have HSR2 := (show Hid (∀ u, Below w5.heap.size w5 u → Calls Tryz.prog 38 #[.agg #[.int .i64 k1, .slice a1 l1.length cp1], .agg #[.int .i64 k1, .slice a2 l1.length cp2]] u fun e w' => e = .returned (.bool true) ∧ Below u.heap.size u w' ∧ Below w5.heap.size w5 w') from fun u hu => (HSR.out u (below_and B45 (Nat.le_refl _) hu)).mono fun e w' ⟨e1, e2, e3⟩ => ⟨e1, e2, below_and hu (Nat.le_refl _) e2⟩)
      obtain ⟨m0, m1, m2, m3, m4, m5, m6, m7, m8⟩ := SK.out w5 (Below.refl _ _)
      have hdw : Below w5.heap.size w5 w5.drew := ⟨rfl, rfl, rfl, Nat.le_refl _, fun _ _ => rfl⟩
      clear HSR HRK hrng hone hrow0 hg5 hgb
      generalize l1.length = L1 at *
      go_region_held3 (fun u => u.cell? ⟨gb, 0, none⟩ = some (.int .i64 c1) ∧ u.cell? ⟨gb, 1, none⟩ = some (.int .i64 d1) ∧ u.cell? ⟨gb, 2, none⟩ = some (.int .i64 k1) ∧ u.cell? ⟨gb, 3, none⟩ = some (.slice a1 L1 cp1) ∧ u.cell? ⟨w.heap.size + 1, 3, none⟩ = some (.slice (some ⟨bk, ofk, none⟩) N cu) ∧ u.cell? ⟨bk, ofk + q * 4, none⟩ = some (.int .i64 c1) ∧ u.cell? ⟨bk, ofk + q * 4 + 1, none⟩ = some (.int .i64 d1) ∧ u.cell? ⟨bk, ofk + q * 4 + 2, none⟩ = some (.int .i64 k1) ∧ u.cell? ⟨bk, ofk + q * 4 + 3, none⟩ = some (.slice a2 L1 cp2))
        (first | (with_reducible exact SK.out w8 hB8) | (with_reducible exact SK.out _ hdw) | go_keep)
        (first | (go_at_call 38; refine (HSR2.out _ (by first | assumption | exact Below.refl _ _)).mono ?_; rintro e w8 ⟨rfl, hb8, hB8⟩))
      go_wp2_with fail
      go_roundw
      case rel => exact ⟨q + 1, by omega, by go_num, below_and B45 (Nat.le_refl _) hB8⟩
      case measure => simp [intOf]; omega
    · have hqd : decide ((q : Int) < N) = false := by simp; omega
      go_wp2_with fail
      go_ret
      exact ⟨rfl, below_and B4 le hBr⟩
end Go.Proofs.YteafgdidjdfiiaaGreat
end
