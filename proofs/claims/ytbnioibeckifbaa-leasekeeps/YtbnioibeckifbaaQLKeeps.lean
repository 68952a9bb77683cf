/- PROVED HERE: at all arguments catenarylaw08.LeaseKeeps returns true and leaves its arguments as they were (the statement LeaseKeepsSaid); no condition. -/
import Derived.Test.YtbnioibeckifbaaZm
import Derived.Test.YtbnioibeckifbaaKo
import Derived.Test.YtbnioibeckifbaaKp
import Derived.Deep.Cut
import Derived.Sort.AtCall
import Derived.Test.YtbnioibeckifbaaMem
import Derived.ProofKit
import Derived.OpenShut
import Derived.ShutString
import Derived.ChangeOld
import Derived.SizedLaws
import Derived.Test.YtbnioibeckifbaaRows
import Derived.Test.YtbnioibeckifbaaLst
import Derived.Test.YtbnioibeckifbaaLc
import Derived.Test.YtbnioibeckifbaaRk
import Derived.Test.YtbnioibeckifbaaZc
section
set_option linter.unusedVariables false
set_option linter.unusedSimpArgs false
namespace Go.Proofs.Ytbnioibeckifbaa
open Go.RowKit Oct Kvl

set_option maxRecDepth 10000 in
set_option maxHeartbeats 2000000 in
theorem refCopyS_some (w : World) (bb off cap : Nat) (ys : List PEnt) (hl : 0 < ys.length) (hc : ys.length ≤ cap) (hm : cap ≤ maxLen) (hbb : bb < w.heap.size)
    (hx : ∀ (i : Nat) (a : PEnt), ys[i]? = some a → ∃ r, r.length = 3 ∧ w.rangeAt bb (off + i * 3) r ∧ RLea Any w r a) (hz : szL 40 szS ys) :
    Calls Try.prog 20 #[.slice (some ⟨bb, off, none⟩) ys.length cap] w fun e w' => ∃ v', e = .returned v' ∧ LB RLea 50 3 w.heap.size w' v' ys ∧ Below w.heap.size w w' := by
  obtain ⟨hz1, hz2⟩ := hz
  have HX := (show Hid (∀ (i : Nat) (a : PEnt), ys[i]? = some a → ∃ r, r.length = 3 ∧ w.rangeAt bb (off + i * 3) r ∧ RLea Any w r a) from hx)
  have HZ := (show Hid (∀ y ∈ ys, szS y) from hz2)
  have hlm : (ys.length : Int) ≤ 9223372036854775807 := by unfold maxLen at hm; omega
  clear hx hz2
  go_enter Try.func20, Try.ntmps20
  go_wp2_with fail
  go_loopw [3, 9] (fun v i wr => ∃ q : Nat, q ≤ ys.length ∧ i = .int .i64 q ∧ LB RLea 50 3 w.heap.size wr v (ys.take q) ∧ Below w.heap.size w wr) (fun _ i _ => ys.length - (intOf i).toNat)
  case atStart => exact ⟨0, by omega, rfl, LB.fresh _ _ _ _ _ (Nat.le_refl _), below_alloc w _⟩
  case round =>
    obtain ⟨q, hq, rfl, hLB, hB⟩ := hrel
    by_cases hql : q < ys.length
    · obtain ⟨a, ha⟩ : ∃ a, ys[q]? = some a := ⟨_, List.getElem?_eq_getElem hql⟩
      obtain ⟨r, _, hrng, s, p1, q1, rfl, hs, ht⟩ := HX.out q a ha
      have hza := HZ.out a (List.mem_of_getElem? ha)
      have hza1 : szT a.1 := hza
      have hrng := rangeAt_block hrng (hB.block bb hbb)
      have HA := (show Hid (ys.take (q + 1) = ys.take q ++ [a]) from take_snoc' ys q a ha)
      have hrow0 := Row.new wr 50 [.slice none 0 0, .int .i64 0, .int .i64 0]
      have htl := take_lenE hq
      clear ha hza
      go_upto_region 5 with (first
        | (refine wpList_load_mid rfl _ _ rfl bb (off + q * 3) rfl [s, .int .i64 p1, .int .i64 q1] _ hrng Try.underlying50 rfl (by kernel_rfl) ?_)
        | (refine wl_store rfl _ _ _ rfl wr.heap.size [s, .int .i64 p1, .int .i64 q1] rfl rfl _ _ hrow0 rfl (by kernel_rfl) (onL3 hs.one) ?_; intro w5 hr5 hg5))
      have hb5 : Below wr.heap.size wr w5 := (below_alloc wr (.cells ([.slice none 0 0, .int .i64 0, .int .i64 0] : List Value).toArray 50)).trans (grown_below hg5 (by simp) (fun k hk => by cases hk; exact Nat.le_refl _))
      have hr5 := hr5.out
      have hB5 := below_and hB (Nat.le_refl _) hb5
      have hs5 := (hs.mv (Mv.below hB5)).1
      have p0 := (rowA hr5 (.cells #[] 5)).cell (j := 0) rfl
      have hlt := hLB.lt
      clear hrng hrow0 hg5
      go_upto_region 6 with (first
        | (at_builtin; refine app_copy rfl _ _ rfl rfl _ a.1 rfl hs5 (Nat.le_trans hza1 (by decide)) ?_; intro v6 w6 hown6 hfr6 hb6; have r6 := hr5.below hb6)
        | (refine wl_set rfl _ _ _ rfl wr.heap.size 0 _ rfl rfl _ _ r6 (show 0 < 3 by decide) (by kernel_rfl) (own1 hown6) ?_; intro w7 hr7 hg7))
      have r7 : Row w7 wr.heap.size 50 [v6, .int .i64 p1, .int .i64 q1] := hr7.out
      have f6 : RT (From w5.heap.size) w6 v6 a.1 := RT.own hown6 hs5.1 hfr6
      obtain ⟨ax6, cx6, rfl, _⟩ := f6.form
      have hlt5 := hr5.lt
      have f7 := f6.mv (Mv.from (L := w5.heap.size) hg7 (by omega) (Nat.le_refl _))
      have hb06 := below_and hb5 (Nat.le_refl _) hb6
      have hB6 := below_and hB (Nat.le_refl _) hb06
      have hb7 : Below wr.heap.size wr w7 := hb06.trans (grown_below hg7 hb06.size (fun k hk => by cases hk; exact Nat.le_refl _))
      have hB7 := below_and hB (Nat.le_refl _) hb7
      have hL7 := hLB.below mov_lea hb7
      have hRc : RLea (From w5.heap.size) w7 [.slice ax6 a.1.length cx6, .int .i64 p1, .int .i64 q1] a := ⟨_, _, _, rfl, f7, ht⟩
      have hlt7 : ∀ g, u3.ownBlock = some g → g < w5.heap.size := fun g hg => Nat.lt_of_lt_of_le (hlt g hg) hb5.size
      clear hr7 hg7 hb6 hown6 hfr6 f6 p0 hb06 hB6
      go_wp2_with (first
        | (refine wl_load rfl _ _ rfl wr.heap.size rfl _ _ r7 _ Try.underlying50 rfl (by kernel_rfl) ?_)
        | (at_builtin; refine wl_push mov_lea rfl _ _ _ rfl 50 3 40 _ Try.underlying42 Try.infL rfl (by decide) w.heap.size u3 (ys.take q) rfl hL7 [.slice ax6 a.1.length cx6, .int .i64 p1, .int .i64 q1] a w5.heap.size hRc rfl (one_RS hRc) hB5.size hlt7 rfl hB7.size (by rw [htl]; omega) (by decide) ?_; intro v8 w8 hLB8 hg8))
      rw [← HA.out] at hLB8
      go_roundw
      case rel => exact ⟨q + 1, by omega, by go_num, hLB8, hB7.trans (grown_below hg8 hB7.size (fun k hk => hLB.fr k hk))⟩
      case measure => simp [intOf]; omega
    · obtain rfl : q = ys.length := by omega
      rw [List.take_length] at hLB
      go_wp2_with fail
      go_ret
      exact ⟨_, rfl, hLB, hB⟩
theorem refCopyS_none (w : World) (ao : Option Addr) (c : Nat) : Calls Try.prog 20 #[.slice ao 0 c] w fun e w' => ∃ v', e = .returned v' ∧ LB RLea 50 3 w.heap.size w' v' [] ∧ Below w.heap.size w w' := by
  go_enter Try.func20, Try.ntmps20
  go_wp2_with fail
  refine wp_loop_rounds 1 ?_; rw [rounds_succ]
  go_wp2_with fail
  go_ret
  exact ⟨_, rfl, LB.fresh RLea 50 3 w.heap.size w (Nat.le_refl _), below_alloc w _⟩
/-- The document's Copy. -/
theorem refCopyS_any (w : World) (v : Value) (ys : List PEnt) (h : RL RLea 3 Any w v ys) (hz : szL 40 szS ys) :
    Calls Try.prog 20 #[v] w fun e w' => ∃ v', e = .returned v' ∧ LB RLea 50 3 w.heap.size w' v' ys ∧ Below w.heap.size w w' := by
  by_cases hl : 0 < ys.length
  · obtain ⟨b1, o1, c1, rfl, hc1, hm1, _, hb1, hx1⟩ := h.at hl
    exact refCopyS_some w b1 o1 c1 ys hl hc1 hm1 hb1 hx1 hz
  · obtain rfl : ys = [] := List.eq_nil_of_length_eq_zero (by omega)
    obtain ⟨ao, c1, rfl, _⟩ := h.form
    exact refCopyS_none w ao c1
end Go.Proofs.Ytbnioibeckifbaa
end

section
set_option linter.unusedVariables false
set_option linter.unusedSimpArgs false
namespace Go.Proofs.Ytbnioibeckifbaa
open Go.RowKit Oct Kvl

theorem bel_set2 {B b : Nat} {w u : World} {x y : Value} (h : Below B w u) (hw : B ≤ w.heap.size) (hb : B ≤ b) : Below B w ((u.setCell ⟨b, 0, none⟩ x).setCell ⟨b, 1, none⟩ y) :=
  h.trans (grown_below (grown_trans (grown_set u b 0 x) (grown_set _ b 1 y) (.inl rfl)) (Nat.le_trans hw h.size) (fun k hk => by cases hk; exact hb))

theorem rgt_sz {ys : List PEnt} (h : rgtL ys) : szL 48 szE ys := ⟨by have := h.1; omega, fun y hy => by have := h.2.2 y hy; unfold rgt1 at this; exact ⟨by unfold szT; omega, by unfold szT; omega⟩⟩
/-- Behind a call of Do: its result in a box of its own. -/
theorem aft1 {B : Nat} {w5 : World} {v5 vv : Value} {D : List PEnt × Int × List Int} (hL : LB OEnt 37 2 B w5 v5 D.1) (ht : OT (From B) w5 vv D.2.2) :
    ∃ w6, w6 = w5.alloc (.cells #[.int .i64 D.2.1, vv] 30) ∧ RL REnt 2 Any w6 v5 D.1 ∧ Rd w6 vv D.2.2 ∧ Row w6 w5.heap.size 30 [.int .i64 D.2.1, vv] ∧ w5.grownBy w6 (some w5.heap.size) :=
  ⟨_, rfl, (Rp.rl hL).mv mov_ent (below_alloc _ _).size (Mv.below (below_alloc _ _)), ht.rt.1.below (below_alloc _ _), Row.new _ _ _, grown_of_below (below_alloc _ _) _⟩
theorem aft2 {B b : Nat} {w5 : World} {v5 vv x y : Value} {D : List PEnt × Int × List Int} (hL : LB OEnt 37 2 B w5 v5 D.1) (ht : OT (From B) w5 vv D.2.2) (q : Row w5 b 30 [x, y]) :
    ∃ w6, w6 = (w5.setCell ⟨b, 0, none⟩ (.int .i64 D.2.1)).setCell ⟨b, 1, none⟩ vv ∧ RL REnt 2 Any w6 v5 D.1 ∧ Rd w6 vv D.2.2 ∧ Row w6 b 30 [.int .i64 D.2.1, vv] ∧ w5.grownBy w6 (some b) := by
  have hg : w5.grownBy ((w5.setCell ⟨b, 0, none⟩ (.int .i64 D.2.1)).setCell ⟨b, 1, none⟩ vv) (some b) := grown_trans (grown_set w5 b 0 _) (grown_set _ b 1 _) (.inl rfl)
  exact ⟨_, rfl, Rp.rl (hL.grownR q (by decide) (by decide) hg), ((ht.ne q (by decide)).mv (G' := Any) (fun k hk hlt => ⟨hg.block k hlt (fun e => by injection e with e; exact hk.2 e), trivial⟩)).rt.1, (q.set 0 _).set 1 _, hg⟩

end Go.Proofs.Ytbnioibeckifbaa
end

section
set_option linter.unusedVariables false
set_option linter.unusedSimpArgs false
namespace Go.Proofs.Ytbnioibeckifbaa
open Go.RowKit Oct Kvl

/-- Behind a call of Do: its result in a box of its own. -/
theorem aftS1 {B : Nat} {w5 : World} {v5 vv : Value} {D : List PEnt × Int × List Int} (hL : LB OLea 50 3 B w5 v5 D.1) (ht : OT (From B) w5 vv D.2.2) :
    ∃ w6, w6 = w5.alloc (.cells #[.int .i64 D.2.1, vv] 30) ∧ RL RLea 3 Any w6 v5 D.1 ∧ Row w6 w5.heap.size 30 [.int .i64 D.2.1, vv] ∧ w5.grownBy w6 (some w5.heap.size) :=
  ⟨_, rfl, (Rs.rl hL).mv mov_lea (below_alloc _ _).size (Mv.below (below_alloc _ _)), Row.new _ _ _, grown_of_below (below_alloc _ _) _⟩
theorem aftS2 {B b : Nat} {w5 : World} {v5 vv x y : Value} {D : List PEnt × Int × List Int} (hL : LB OLea 50 3 B w5 v5 D.1) (ht : OT (From B) w5 vv D.2.2) (q : Row w5 b 30 [x, y]) :
    ∃ w6, w6 = (w5.setCell ⟨b, 0, none⟩ (.int .i64 D.2.1)).setCell ⟨b, 1, none⟩ vv ∧ RL RLea 3 Any w6 v5 D.1 ∧ Row w6 b 30 [.int .i64 D.2.1, vv] ∧ w5.grownBy w6 (some b) := by
  have hg : w5.grownBy ((w5.setCell ⟨b, 0, none⟩ (.int .i64 D.2.1)).setCell ⟨b, 1, none⟩ vv) (some b) := grown_trans (grown_set w5 b 0 _) (grown_set _ b 1 _) (.inl rfl)
  exact ⟨_, rfl, Rs.rl (hL.grownL q (by decide) (by decide) hg), (q.set 0 _).set 1 _, hg⟩

set_option maxRecDepth 10000 in
set_option maxHeartbeats 8000000 in
theorem keepsS_any (w : World) (v : Value) (ys : List PEnt) (r : List Value) (o : POp) (who now : Int) (h0 : RL RLea 3 Any w v ys) (h1 : ROp Any w r o) (z0 : szL 40 szS ys) (z1 : szO o) :
    Calls Try.prog 6 #[v, .agg r.toArray, .agg #[.int .i64 who, .int .i64 now]] w fun e w' => e = .returned (.bool true) ∧ Below w.heap.size w w' := by
  have le := Nat.le_refl w.heap.size
  have hall := h1
  obtain ⟨vn, va, vb, rfl, rn, ra', rb'⟩ := h1
  obtain ⟨w0, hw0⟩ : ∃ w0, w0 = (w.alloc (.cells #[.int .i64 o.1, vn, va, vb, .int .i64 o.2.2.2.2] 25)).alloc (.cells #[.int .i64 who, .int .i64 now] 43) := ⟨_, rfl⟩
  have x0 : Row w0 w.heap.size 25 [.int .i64 o.1, vn, va, vb, .int .i64 o.2.2.2.2] := by rw [hw0]; exact rowA (Row.new w 25 _) _
  have y0 : Row w0 (w.heap.size + 1) 43 [.int .i64 who, .int .i64 now] := by
    rw [hw0]
    have := Row.new (w.alloc (.cells #[.int .i64 o.1, vn, va, vb, .int .i64 o.2.2.2.2] 25)) 43 [.int .i64 who, .int .i64 now]
    simpa using this
  have B0 : Below w.heap.size w w0 := by rw [hw0]; exact below_and (below_alloc _ _) (Nat.le_refl _) (below_alloc _ _)
  go_enter Try.func6, Try.ntmps6
  go_upto_region 1 with fail
  rw [← hw0]
  clear hw0
  go_upto_region 3 with (go_at_call 19; refine (leaseAlive_any w0).mono ?_; rintro e w1 ⟨rfl, hb1⟩)
  have B1 := below_and B0 le hb1
  have x1 := x0.below hb1
  have y1 := y0.below hb1
  clear hb1 B0 x0 y0
  have hRi := rightS_any w1 v ys (h0.mv mov_lea B1.size (Mv.below B1))
  by_cases hr : rgtS ys
  rotate_left
  · rw [decide_eq_false hr] at hRi
    go_wp2_with (go_at_call 24; refine hRi.mono ?_; rintro e w2 ⟨rfl, hb2⟩)
    go_ret
    exact ⟨rfl, below_and B1 le hb2⟩
  rw [decide_eq_true hr] at hRi
  go_upto_region 5 with (go_at_call 24; refine hRi.mono ?_; rintro e w2 ⟨rfl, hb2⟩)
  have B2 := below_and B1 le hb2
  have x2 := x1.below hb2
  have y2 := y1.below hb2
  clear hb2 B1 x1 y1 hRi
  obtain ⟨D, hD⟩ : ∃ D, D = doS ys o who now := ⟨_, rfl⟩
  have HDD := (show Hid (D = doS ys o who now) from hD)
  have HC := (show Hid (∀ u, Below w2.heap.size w2 u → Calls Try.prog 20 #[v] u fun e w' => ∃ v', e = .returned v' ∧ Hid (∀ u', Below w'.heap.size w' u' → RL RLea 3 Any u' v' ys) ∧ Below u.heap.size u w' ∧ Below w2.heap.size w2 w') from fun u hu => (refCopyS_any u v ys (h0.mv mov_lea (below_and B2 le hu).size (Mv.below (below_and B2 le hu))) z0).mono fun e w' ⟨v', e1, e2, e3⟩ => ⟨v', e1, fun u' hu' => ((e2.rl mov_lea).mv mov_lea (Nat.le_refl _) Mv.any).mv mov_lea hu'.size (Mv.below hu'), e3, below_and hu (Nat.le_refl _) e3⟩)
  have HO := (show Hid (∀ u, Below w2.heap.size w2 u → Calls Try.prog 10 #[.agg #[.int .i64 o.1, vn, va, vb, .int .i64 o.2.2.2.2]] u fun e w' => ∃ r', e = .returned (.agg r'.toArray) ∧ Hid (∀ u', Below w'.heap.size w' u' → ROp Any u' r' o) ∧ Below u.heap.size u w' ∧ Below w2.heap.size w2 w') from fun u hu => (copyOp_any u _ o (mov_op _ _ _ _ _ _ hall (below_and B2 le hu).size (Mv.below (below_and B2 le hu))) z1).mono fun e w' ⟨v', e1, e2, e3⟩ => ⟨v', e1, fun u' hu' => mov_op _ _ _ _ _ _ e2 hu'.size (fun k hk hlt => ⟨hu'.block k hlt, trivial⟩), e3, below_and hu (Nat.le_refl _) e3⟩)
  have HD := (show Hid (∀ (u : World) (v3 : Value) (r4 : List Value), Below w2.heap.size w2 u → RL RLea 3 Any u v3 ys → ROp Any u r4 o → Calls Try.prog 21 #[v3, .agg r4.toArray, .int .i64 who, .int .i64 now] u fun e w' => ∃ v' vv, e = .returned (.tuple #[v', .agg #[.int .i64 D.2.1, vv]]) ∧ LB OLea 50 3 u.heap.size w' v' D.1 ∧ OT (From u.heap.size) w' vv D.2.2 ∧ Below u.heap.size u w' ∧ Below w2.heap.size w2 w') from fun u v3 r4 hu h3 h4 => by
    rw [hD]
    exact (doS_any u v3 ys h3 z0 r4 o h4 z1 who now).mono fun e w' ⟨v', vv, e1, e2, e3, e4⟩ => ⟨v', vv, e1, e2, e3, e4, below_and hu (Nat.le_refl _) e4⟩)
  clear hD
  have SK := (show Hid (∀ u, Below w2.heap.size w2 u → u.cell? ⟨w.heap.size, 0, none⟩ = some (.int .i64 o.1) ∧ u.cell? ⟨w.heap.size, 1, none⟩ = some vn ∧ u.cell? ⟨w.heap.size, 2, none⟩ = some va ∧ u.cell? ⟨w.heap.size, 3, none⟩ = some vb ∧ u.cell? ⟨w.heap.size, 4, none⟩ = some (.int .i64 o.2.2.2.2) ∧ u.cell? ⟨w.heap.size + 1, 0, none⟩ = some (.int .i64 who) ∧ u.cell? ⟨w.heap.size + 1, 1, none⟩ = some (.int .i64 now)) from fun u hu => ⟨(x2.below hu).cell (j := 0) rfl, (x2.below hu).cell (j := 1) rfl, (x2.below hu).cell (j := 2) rfl, (x2.below hu).cell (j := 3) rfl, (x2.below hu).cell (j := 4) rfl, (y2.below hu).cell (j := 0) rfl, (y2.below hu).cell (j := 1) rfl⟩)
  have hdw : Below w2.heap.size w2 w2.drew := ⟨rfl, rfl, rfl, Nat.le_refl _, fun _ _ => rfl⟩
  try go_simp
  go_cut [7, 8] from 17 (fun s7 s8 wx => ∃ (b : Nat) (vv : Value), s8 = .pointer (some ⟨b, 0, none⟩) ∧ RL RLea 3 Any wx s7 D.1 ∧ Row wx b 30 [.int .i64 D.2.1, vv] ∧ Below w2.heap.size w2 wx)
  case first =>
    go_wp2_with fail
    go_region_held3 (fun u => u.cell? ⟨w.heap.size, 0, none⟩ = some (.int .i64 o.1) ∧ u.cell? ⟨w.heap.size, 1, none⟩ = some vn ∧ u.cell? ⟨w.heap.size, 2, none⟩ = some va ∧ u.cell? ⟨w.heap.size, 3, none⟩ = some vb ∧ u.cell? ⟨w.heap.size, 4, none⟩ = some (.int .i64 o.2.2.2.2) ∧ u.cell? ⟨w.heap.size + 1, 0, none⟩ = some (.int .i64 who) ∧ u.cell? ⟨w.heap.size + 1, 1, none⟩ = some (.int .i64 now))
      (first | exact SK.out _ (bel_set2 (by assumption) (Nat.le_refl _) (by first | exact Nat.le_refl _ | exact Below.size (by assumption))) | exact SK.out _ (by first | assumption | exact Below.drew (by assumption) | exact below_and (by assumption) (Nat.le_refl _) (below_alloc _ _) | exact Below.drew (below_and (by assumption) (Nat.le_refl _) (below_alloc _ _)) | exact below_and (Below.drew (by assumption)) (Nat.le_refl _) (below_alloc _ _)) | go_keep)
      (first
        | (go_at_call 21; refine (HD.out _ _ _ (by first | assumption | exact Below.drew (by assumption) | exact below_and (by assumption) (Nat.le_refl _) (below_alloc _ _) | exact Below.drew (below_and (by assumption) (Nat.le_refl _) (below_alloc _ _)) | exact below_and (Below.drew (by assumption)) (Nat.le_refl _) (below_alloc _ _)) (rc.out _ (by first | exact Below.refl _ _ | assumption | exact below_alloc _ _ | exact below_and (by assumption) (Nat.le_refl _) (below_alloc _ _) | exact below_and (below_alloc _ _) (Nat.le_refl _) (by assumption))) (ro.out _ (by first | exact Below.refl _ _ | assumption | exact below_alloc _ _ | exact below_and (by assumption) (Nat.le_refl _) (below_alloc _ _) | exact below_and (below_alloc _ _) (Nat.le_refl _) (by assumption)))).mono ?_; rintro e w5 ⟨v5, vv5, rfl, hL5, t5, hb5, hB5⟩; obtain ⟨ax5, cx5, rfl, hcx5⟩ := t5.rt.form; (first | (have q := (Row.new _ 30 [.int .i64 0, .slice none 0 0]).below hb5; have qc0 := q.cell (j := 0) rfl; have qc1 := q.cell (j := 1) rfl; have qf0 := q.frozen 0; have qf1 := q.frozen 1) | (have q := (Row.new _ 30 [.int .i64 0, .slice none 0 0]).drew.below hb5; have qc0 := q.cell (j := 0) rfl; have qc1 := q.cell (j := 1) rfl; have qf0 := q.frozen 0; have qf1 := q.frozen 1) | (have q := q.below hb5; have qc0 := q.cell (j := 0) rfl; have qc1 := q.cell (j := 1) rfl; have qf0 := q.frozen 0; have qf1 := q.frozen 1) | skip))
        | (go_at_call 10; refine (HO.out _ (by first | assumption | exact Below.drew (by assumption) | exact below_and (by assumption) (Nat.le_refl _) (below_alloc _ _) | exact Below.drew (below_and (by assumption) (Nat.le_refl _) (below_alloc _ _)) | exact below_and (Below.drew (by assumption)) (Nat.le_refl _) (below_alloc _ _))).mono ?_; rintro e w4 ⟨r4, rfl, ro, hb4, hB4⟩; (first | (have q := (Row.new _ 30 [.int .i64 0, .slice none 0 0]).below hb4; have qc0 := q.cell (j := 0) rfl; have qc1 := q.cell (j := 1) rfl; have qf0 := q.frozen 0; have qf1 := q.frozen 1) | (have q := (Row.new _ 30 [.int .i64 0, .slice none 0 0]).drew.below hb4; have qc0 := q.cell (j := 0) rfl; have qc1 := q.cell (j := 1) rfl; have qf0 := q.frozen 0; have qf1 := q.frozen 1) | (have q := q.below hb4; have qc0 := q.cell (j := 0) rfl; have qc1 := q.cell (j := 1) rfl; have qf0 := q.frozen 0; have qf1 := q.frozen 1) | skip))
        | (go_at_call 20; refine (HC.out _ (by first | assumption | exact Below.drew (by assumption) | exact below_and (by assumption) (Nat.le_refl _) (below_alloc _ _) | exact Below.drew (below_and (by assumption) (Nat.le_refl _) (below_alloc _ _)) | exact below_and (Below.drew (by assumption)) (Nat.le_refl _) (below_alloc _ _))).mono ?_; rintro e w3 ⟨v3, rfl, rc, hb3, hB3⟩; (first | (have q := (Row.new _ 30 [.int .i64 0, .slice none 0 0]).below hb3; have qc0 := q.cell (j := 0) rfl; have qc1 := q.cell (j := 1) rfl; have qf0 := q.frozen 0; have qf1 := q.frozen 1) | (have q := (Row.new _ 30 [.int .i64 0, .slice none 0 0]).drew.below hb3; have qc0 := q.cell (j := 0) rfl; have qc1 := q.cell (j := 1) rfl; have qf0 := q.frozen 0; have qf1 := q.frozen 1) | (have q := q.below hb3; have qc0 := q.cell (j := 0) rfl; have qc1 := q.cell (j := 1) rfl; have qf0 := q.frozen 0; have qf1 := q.frozen 1) | skip)))
    all_goals (
      first
        | (obtain ⟨w6, hw6, r6, y6, g6⟩ := aftS1 hL5 t5; rw [← hw6])
        | (obtain ⟨w6, hw6, r6, y6, g6⟩ := aftS2 hL5 t5 q; rw [← hw6])
      have B6 : Below w2.heap.size w2 w6 := hB5.trans (grown_below g6 hB5.size (fun k hk => by cases hk; first | exact hB5.size | exact hB4.size | exact hB3.size | exact Nat.le_refl _))
      go_wp2_with fail
      go_meet
      case rel => exact ⟨_, _, rfl, r6, y6, B6⟩)
  case rest =>
    clear HC HO HD SK hdw
    obtain ⟨b, vv, rfl, r6, z6, q6⟩ := hcut
    have Bc := below_and B2 le q6
    have xc := x2.below q6
    have yc := y2.below q6
    clear x2 y2 B2 q6
    have hDr : rgtS D.1 := by rw [HDD.out]; exact doS_rgt hr
    have hR2 := rightS_any wc _ _ r6
    rw [decide_eq_true hDr] at hR2
    have HKP := (show Hid (∀ n, (holS ys n now).1 ≠ 0 → (holS ys n now).1 ≠ who → holS D.1 n now = holS ys n now) from fun n e1 e2 => by rw [HDD.out]; exact keepsS hr n e1 e2)
    have HGT := (show Hid (D.2.1 = 0 → (o.1 = 5 ∨ o.1 = 6) → holS D.1 o.2.1 now = (who, o.2.2.2.2)) from fun e1 e2 => by rw [HDD.out] at e1 ⊢; exact gotS hr e1 e2)
    have HLT := (show Hid (D.2.1 = 0 → o.1 = 7 → holS D.1 o.2.1 now = (0, 0)) from fun e1 e2 => by rw [HDD.out] at e1 ⊢; exact lostS hr e1 e2)
    go_upto_region 8 with (go_at_call 24; refine hR2.mono ?_; rintro e w7 ⟨rfl, hb7⟩)
    have B7 := below_and Bc le hb7
    have x7 := xc.below hb7
    have y7 := yc.below hb7
    have z7 := z6.below hb7
    have r7 := r6.mv mov_lea hb7.size (Mv.below hb7)
    clear hb7 Bc xc yc z6 r6 hR2 hDr
    obtain ⟨ao, cap, rfl, hm⟩ := h0.form
    have HX := (show Hid (0 < ys.length → ∃ b off, ao = some ⟨b, off, none⟩ ∧ b < w.heap.size ∧ ∀ (i : Nat) (a : PEnt), ys[i]? = some a → ∃ s p q, w.rangeAt b (off + i * 3) [s, .int .i64 p, .int .i64 q] ∧ RT Any w s a.1) from fun hl => by
      obtain ⟨b, off, cap', e, hc, hm, _, hb, hx⟩ := h0.at hl
      injection e with e1 e2 e3
      refine ⟨b, off, e1, hb, fun i a ha => ?_⟩
      obtain ⟨r, _, hrng, s, p, q, rfl, t1, t2⟩ := hx i a ha
      exact ⟨s, p, q, hrng, t1⟩)
    have HY := (show Hid (∀ u, Below w.heap.size w u → ∀ nv n, Rd u nv n → Calls Try.prog 18 #[.slice ao ys.length cap, nv, .int .i64 now] u fun e w' => e = .returned (.tuple #[.int .i64 (holS ys n now).1, .int .i64 (holS ys n now).2]) ∧ Below u.heap.size u w') from fun u hu nv n hn => holder_any u _ ys (h0.mv mov_lea hu.size (Mv.below hu)) nv n hn now)
    have HZ := (show Hid (∀ u, Below w7.heap.size w7 u → ∀ nv n, Rd u nv n → Calls Try.prog 18 #[u7, nv, .int .i64 now] u fun e w' => e = .returned (.tuple #[.int .i64 (holS D.1 n now).1, .int .i64 (holS D.1 n now).2]) ∧ Below u.heap.size u w') from fun u hu nv n hn => holder_any u _ D.1 (r7.mv mov_lea hu.size (Mv.below hu)) nv n hn now)
    have hl16 : (ys.length : Int) ≤ 16 := by have := hr.1; omega
    obtain ⟨N, hN⟩ : ∃ N, N = ys.length := ⟨_, rfl⟩
    rw [← hN] at HX HY hl16 ⊢
    have HN := (show Hid (ys.length = N) from hN.symm)
    have HRN := (show Hid (RT Any w vn o.2.1) from rn)
    clear hN h0 hall z0 z1 rn ra' rb' hr r7
    go_wp2_with fail
    go_loopw [39] (fun i wr => ∃ q : Nat, q ≤ N ∧ i = .int .i64 q ∧ Below w7.heap.size w7 wr) (fun i _ => N - (intOf i).toNat)
    case atStart => exact ⟨0, Nat.zero_le _, rfl, Below.refl _ _⟩
    case round =>
      obtain ⟨q, hq, rfl, hBr⟩ := hrel
      have Br := below_and B7 le hBr
      have yr := y7.below hBr
      by_cases hql : q < N
      · obtain ⟨x, hx⟩ : ∃ x, ys[q]? = some x := ⟨_, List.getElem?_eq_getElem (by have := HN.out; omega)⟩
        obtain ⟨bb, off, rfl, hbb, hxx⟩ := HX.out (by omega)
        obtain ⟨s1, p1, q1, hrng, t1⟩ := hxx q x hx
        have hrng := rangeAt_block hrng (Br.block bb hbb)
        have hrow0 := Row.new wr 50 [.slice none 0 0, .int .i64 0, .int .i64 0]
        have hone := onL3 (p := p1) (q := q1) t1.one
        have hkp := HKP.out x.1
        have hh1 := fun u hu => HY.out u hu s1 x.1 (t1.mv (Mv.below hu)).1
        have hh2 := fun u (hu : Below w7.heap.size w7 u) => HZ.out u hu s1 x.1 (t1.mv (Mv.below (below_and B7 le hu))).1
        obtain ⟨n1, hn1⟩ : ∃ n, (holS ys x.1 now).1 = n := ⟨_, rfl⟩
        obtain ⟨k1, hk1⟩ : ∃ n, (holS ys x.1 now).2 = n := ⟨_, rfl⟩
        obtain ⟨n2, hn2⟩ : ∃ n, (holS D.1 x.1 now).1 = n := ⟨_, rfl⟩
        obtain ⟨k2, hk2⟩ : ∃ n, (holS D.1 x.1 now).2 = n := ⟨_, rfl⟩
        have hkp' : n1 ≠ 0 → n1 ≠ who → n2 = n1 ∧ k2 = k1 := fun e1 e2 => by
          rw [← hn1] at e1 e2
          have := hkp e1 e2
          exact ⟨by rw [← hn2, ← hn1, this], by rw [← hk2, ← hk1, this]⟩
        rw [hn1, hk1] at hh1
        rw [hn2, hk2] at hh2
        have H1 := (show Hid (∀ u, Below w.heap.size w u → Calls Try.prog 18 #[.slice (some ⟨bb, off, none⟩) N cap, s1, .int .i64 now] u fun e w' => e = .returned (.tuple #[.int .i64 n1, .int .i64 k1]) ∧ Below u.heap.size u w') from hh1)
        have H2 := (show Hid (∀ u, Below w7.heap.size w7 u → Calls Try.prog 18 #[u7, s1, .int .i64 now] u fun e w' => e = .returned (.tuple #[.int .i64 n2, .int .i64 k2]) ∧ Below u.heap.size u w') from hh2)
        clear hh1 hh2 hkp hn1 hk1 hn2 hk2 hx hxx t1
        go_upto_region 11 with (first
          | (refine wpList_load_mid rfl _ _ rfl bb (off + q * 3) rfl [s1, .int .i64 p1, .int .i64 q1] _ hrng Try.underlying50 rfl (by kernel_rfl) ?_)
          | (refine wl_store rfl _ _ _ rfl wr.heap.size [s1, .int .i64 p1, .int .i64 q1] rfl rfl _ _ hrow0 rfl (by kernel_rfl) hone ?_; intro w9 hr9 hg9))
        have hb9 : Below wr.heap.size wr w9 := (below_alloc wr (.cells ([.slice none 0 0, .int .i64 0, .int .i64 0] : List Value).toArray 50)).trans (grown_below hg9 (by simp) (fun k hk => by cases hk; exact Nat.le_refl _))
        have hB9 := below_and hBr (Nat.le_refl _) hb9
        have e0 := hr9.out.cell (j := 0) rfl
        have e1 := (yr.below hb9).cell (j := 1) rfl
        go_upto_region 12 with (go_at_call 18; refine (H1.out w9 (below_and B7 le hB9)).mono ?_; rintro e w10 ⟨rfl, hb10⟩)
        have hB10 := below_and hB9 (Nat.le_refl _) hb10
        have e0 := (hr9.out.below hb10).cell (j := 0) rfl
        have e1 := (y7.below hB10).cell (j := 1) rfl
        go_upto_region 13 with (go_at_call 18; refine (H2.out w10 hB10).mono ?_; rintro e w11 ⟨rfl, hb11⟩)
        have hB11 := below_and hB10 (Nat.le_refl _) hb11
        have e0 := (y7.below hB11).cell (j := 0) rfl
        have fine : ∀ u, u = w11 → Below w7.heap.size w7 u := fun u hu => by rw [hu]; exact hB11
        by_cases m1 : n1 = 0
        · have m1' : (n1 != 0) = false := by simp [m1]
          clear m1
          go_wp2_with fail
          go_roundw
          case rel => exact ⟨q + 1, by omega, by go_num, hB11⟩
          case measure => simp [intOf]; omega
        have m1' : (n1 != 0) = true := by simp [m1]
        by_cases m2 : n1 = who
        · have m2' : (n1 != who) = false := by simp [m2]
          clear m1 m2
          go_wp2_with fail
          go_roundw
          case rel => exact ⟨q + 1, by omega, by go_num, hB11⟩
          case measure => simp [intOf]; omega
        have m2' : (n1 != who) = true := by simp [m2]
        obtain ⟨rfl, rfl⟩ := hkp' m1 m2
        have m3 : (n2 != n2) = false := by simp
        have m4 : (k2 != k2) = false := by simp
        clear m1 m2
        go_wp2_with fail
        go_roundw
        case rel => exact ⟨q + 1, by omega, by go_num, hB11⟩
        case measure => simp [intOf]; omega
      · have hqd : decide ((q : Int) < N) = false := by simp; omega
        have xr := x7.below hBr
        have zr := z7.below hBr
        have e0 := xr.cell (j := 1) rfl
        have e1 := yr.cell (j := 1) rfl
        have hh := HZ.out wr hBr vn o.2.1 (HRN.out.mv (Mv.below Br)).1
        have hgt := HGT.out
        have hlt := HLT.out
        obtain ⟨n2, hn2⟩ : ∃ n, (holS D.1 o.2.1 now).1 = n := ⟨_, rfl⟩
        obtain ⟨k2, hk2⟩ : ∃ n, (holS D.1 o.2.1 now).2 = n := ⟨_, rfl⟩
        have hgt' : D.2.1 = 0 → (o.1 = 5 ∨ o.1 = 6) → n2 = who ∧ k2 = o.2.2.2.2 := fun e1 e2 => by
          have := hgt e1 e2
          exact ⟨by rw [← hn2, this], by rw [← hk2, this]⟩
        have hlt' : D.2.1 = 0 → o.1 = 7 → n2 = 0 := fun e1 e2 => by
          have := hlt e1 e2
          rw [← hn2, this]
        rw [hn2, hk2] at hh
        clear hgt hlt hn2 hk2
        go_upto_region 17 with (go_at_call 18; refine hh.mono ?_; rintro e w12 ⟨rfl, hb12⟩)
        have hB12 := below_and hBr (Nat.le_refl _) hb12
        have B12 := below_and Br le hb12
        have f0 := (z7.below hB12).cell (j := 0) rfl
        have f1 := (x7.below hB12).cell (j := 0) rfl
        have f2 := (x7.below hB12).cell (j := 4) rfl
        have f3 := (y7.below hB12).cell (j := 0) rfl
        clear e0 e1 hh
        generalize D.2.1 = dc at *
        by_cases c0 : dc = 0
        rotate_left
        · have c0' : (dc == 0) = false := by simp [c0]
          have c0'' : (dc != 0) = true := by simp [c0]
          clear c0
          go_wp2_with fail
          go_ret
          exact ⟨rfl, B12⟩
        subst c0
        by_cases c5 : o.1 = 5
        · obtain ⟨rfl, rfl⟩ := hgt' rfl (.inl c5)
          have c5' : (o.1 == 5) = true := by simp [c5]
          have s1 : (n2 == n2) = true := by simp
          have s2 : (o.2.2.2.2 == o.2.2.2.2) = true := by simp
          clear c5
          go_wp2_with fail
          go_ret
          exact ⟨rfl, B12⟩
        have c5' : (o.1 == 5) = false := by simp [c5]
        by_cases c6 : o.1 = 6
        · obtain ⟨rfl, rfl⟩ := hgt' rfl (.inr c6)
          have c6' : (o.1 == 6) = true := by simp [c6]
          have s1 : (n2 == n2) = true := by simp
          have s2 : (o.2.2.2.2 == o.2.2.2.2) = true := by simp
          clear c5 c6
          go_wp2_with fail
          go_ret
          exact ⟨rfl, B12⟩
        have c6' : (o.1 == 6) = false := by simp [c6]
        by_cases c7 : o.1 = 7
        · obtain rfl := hlt' rfl c7
          have c7' : (o.1 != 7) = false := by simp [c7]
          clear c5 c6 c7
          go_wp2_with fail
          go_ret
          exact ⟨rfl, B12⟩
        have c7' : (o.1 != 7) = true := by simp [c7]
        clear c5 c6 c7
        go_wp2_with fail
        go_ret
        exact ⟨rfl, B12⟩
end Go.Proofs.Ytbnioibeckifbaa
end

section
namespace Go.Proofs.Ytbnioibeckifbaa
open Go.ChangeShapes Go.WideShapes Go.ChangeAt Go.RowKit Oct

theorem wf_u8 {n : Int} (h : (Lit.int .u8 n).wf = true) : 0 ≤ n ∧ n ≤ 255 := bounds_u8 h

/-- What a slice of bytes reads as, and its datum. -/
def IsBytes {H : Type} (d : DataW H) (l : List Int) : Prop := (d = .nil ∧ l = []) ∨ ∃ spare, d = .slice (lits .u8 l) spare

theorem open_bytes_at {H : Type} {enc : TypeId × Value → H} {P : Program} {w : World} {base fuel : Nat} {held : Bool} {t e : TypeId} (ht : P.underlying t = some (.slice e)) (he : P.underlying e = some (.int .u8)) (hc : P.cellsOf e = 1)
    {v : Value} {x : DataW H × List MemPlace} (hf : DataW.trod enc P w base (fun _ => true) held fuel t [v] = some x) : ∃ l, Rd w v l ∧ IsBytes x.1 l := by
  rcases open_ints ht he hc hf with ⟨hcs, hx⟩ | ⟨a, len, cap, zs, hcs, _, hl, hm, hz, hx, hcell, hwz⟩
  · simp only [List.cons.injEq, and_true] at hcs
    subst hcs
    subst hx
    exact ⟨[], ⟨Byt.nil, none, 0, rfl, Nat.le_refl _, Nat.zero_le _, fun _ => ⟨rfl, rfl⟩, fun a ha => by cases ha⟩, .inl ⟨rfl, rfl⟩⟩
  · simp only [List.cons.injEq, and_true] at hcs
    subst hcs
    subst hx
    simp only [if_true] at hz
    have hlen : (bc (zs.take len)).length = len := by rw [bc_len, List.length_take]; omega
    refine ⟨zs.take len, ⟨fun y hy => wf_u8 (hwz y (List.mem_of_mem_take hy)), some a, cap, by rw [hlen], by rw [hlen]; exact hl, hm, fun e => (by cases e), fun b hb j u hu => ?_⟩, .inr ⟨_, rfl⟩⟩
    cases hb
    have hj : j < len := by
      rcases Nat.lt_or_ge j len with h | h
      · exact h
      · rw [List.getElem?_eq_none (by omega)] at hu; cases hu
    rw [hcell j (by omega)]
    rw [bc_getD _ _ (by rw [List.length_take]; omega)] at hu
    rw [← hu]
    simp [List.getD, hj]
theorem open_bytes {H : Type} {enc : TypeId × Value → H} {P : Program} {w : World} {base : Nat} {held : Bool} {t e : TypeId} (ht : P.underlying t = some (.slice e)) (he : P.underlying e = some (.int .u8)) (hc : P.cellsOf e = 1)
    {a : Option Addr} {len cap : Nat} {d : DataW H} {p : List MemPlace} (h : DataW.Trod enc P w base (fun _ => true) held t (.slice a len cap) d p) :
    ∃ l, Rd w (.slice a len cap) l ∧ IsBytes d l := by
  obtain ⟨fuel, hf⟩ := h
  have := open_bytes_at ht he hc (v := .slice a len cap) (by simpa [Value.cells] using hf)
  simpa using this

/-- A list of texts, and its datum. -/
def IsBytess {H : Type} (d : DataW H) (ll : List (List Int)) : Prop := (d = .nil ∧ ll = []) ∨ ∃ ds spare, d = .slice ds spare ∧ All2 IsBytes ds ll

theorem open_bytess_at {H : Type} {enc : TypeId × Value → H} {P : Program} {w : World} {base fuel : Nat} {held : Bool} {t u e : TypeId} (ht : P.underlying t = some (.slice u)) (hu : P.underlying u = some (.slice e)) (he : P.underlying e = some (.int .u8))
    (hcu : P.cellsOf u = 1) (hce : P.cellsOf e = 1) {v : Value} {x : DataW H × List MemPlace} (hf : DataW.trod enc P w base (fun _ => true) held fuel t [v] = some x) : ∃ ll, Rdl w v ll ∧ IsBytess x.1 ll := by
  rcases DataW.trod_slice ht hf with ⟨hcs, hx⟩ | ⟨a, len, cap, elems, rest, n, _, hcs, hx, _, hl, hm, hlen, hel, _, _⟩
  · simp only [List.cons.injEq, and_true] at hcs
    subst hcs
    subst hx
    exact ⟨[], ⟨[], ⟨none, 0, rfl, Nat.le_refl _, Nat.zero_le _, fun _ => ⟨rfl, rfl⟩, fun a ha => by cases ha⟩, trivial⟩, .inl ⟨rfl, rfl⟩⟩
  · simp only [List.cons.injEq, and_true] at hcs
    subst hcs
    subst hx
    rw [hcu] at hel
    have each : ∀ i, i < len → ∃ c l y, w.cell? (a.add i) = some c ∧ elems[i]? = some y ∧ Rd w c l ∧ IsBytes y.1 l := fun i hi => by
      have h1 := hel i hi
      rw [List.getElem?_eq_getElem (by omega), Nat.mul_one] at h1
      obtain ⟨cs, hc1, hc2⟩ := Option.bind_eq_some_iff.1 h1
      obtain ⟨c, rfl⟩ : ∃ c, cs = [c] := by
        have hlen1 := (World.cells?_some hc1).2.1
        match cs, hlen1 with
        | [c], _ => exact ⟨c, rfl⟩
      obtain ⟨l, hl1, hl2⟩ := open_bytes_at hu he hce hc2
      exact ⟨c, l, _, Go.ChangeShapes.cell_of_cells?_one hc1, List.getElem?_eq_getElem (by omega), hl1, hl2⟩
    obtain ⟨vs, ll, hv1, hv2, hv3⟩ : ∃ (vs : List Value) (ll : List (List Int)), vs.length = len ∧ ll.length = len ∧ ∀ i c l, vs[i]? = some c → ll[i]? = some l → w.cell? (a.add i) = some c ∧ Rd w c l ∧ ∀ y, elems[i]? = some y → IsBytes y.1 l := by
      clear hm hl hel hf
      have key : ∀ k, k ≤ len → ∃ (vs : List Value) (ll : List (List Int)), vs.length = k ∧ ll.length = k ∧ ∀ i c l, vs[i]? = some c → ll[i]? = some l → w.cell? (a.add i) = some c ∧ Rd w c l ∧ ∀ y, elems[i]? = some y → IsBytes y.1 l := by
        intro k
        induction k with
        | zero => exact fun _ => ⟨[], [], rfl, rfl, fun i c l h => by simp at h⟩
        | succ k ih =>
          intro hk
          obtain ⟨vs, ll, g1, g2, g3⟩ := ih (by omega)
          obtain ⟨c, l, y, e1, e2, e3, e4⟩ := each k (by omega)
          refine ⟨vs ++ [c], ll ++ [l], by simp [g1], by simp [g2], fun i c' l' hc' hl' => ?_⟩
          rcases Nat.lt_trichotomy i k with h | h | h
          · rw [List.getElem?_append_left (by omega)] at hc' hl'
            exact g3 i c' l' hc' hl'
          · subst h
            rw [List.getElem?_append_right (by omega), g1] at hc'
            rw [List.getElem?_append_right (by omega), g2] at hl'
            simp at hc' hl'
            subst hc' hl'
            exact ⟨e1, e3, fun y' hy' => by rw [e2] at hy'; cases hy'; exact e4⟩
          · rw [List.getElem?_eq_none (by simp; omega)] at hc'; cases hc'
      exact key len (Nat.le_refl _)
    refine ⟨ll, ⟨vs, ⟨some a, cap, by rw [hv1], by rw [hv1]; exact hl, hm, fun e => (by cases e), fun b hb j u hju => ?_⟩, All2.of_get (by omega) fun i c l hc hl => (hv3 i c l hc hl).2.1⟩, .inr ⟨_, _, rfl, All2.of_get (by simp; omega) fun i d l hd hl => ?_⟩⟩
    · cases hb
      have hj : j < vs.length := by
        rcases Nat.lt_or_ge j vs.length with h | h
        · exact h
        · rw [List.getElem?_eq_none h] at hju; cases hju
      exact (hv3 j u _ hju (List.getElem?_eq_getElem (by omega))).1
    · have hi : i < ll.length := by
        rcases Nat.lt_or_ge i ll.length with h | h
        · exact h
        · rw [List.getElem?_eq_none h] at hl; cases hl
      have he' : elems[i]? = some (elems[i]'(by omega)) := List.getElem?_eq_getElem (by omega)
      have := (hv3 i _ l (List.getElem?_eq_getElem (by omega)) hl).2.2 _ he'
      rw [List.getElem?_map, he'] at hd
      simp at hd
      rw [← hd]
      exact this
theorem open_bytess {H : Type} {enc : TypeId × Value → H} {P : Program} {w : World} {base : Nat} {held : Bool} {t u e : TypeId} (ht : P.underlying t = some (.slice u)) (hu : P.underlying u = some (.slice e)) (he : P.underlying e = some (.int .u8))
    (hcu : P.cellsOf u = 1) (hce : P.cellsOf e = 1) {a : Option Addr} {len cap : Nat} {d : DataW H} {p : List MemPlace} (h : DataW.Trod enc P w base (fun _ => true) held t (.slice a len cap) d p) :
    ∃ ll, Rdl w (.slice a len cap) ll ∧ IsBytess d ll := by
  obtain ⟨fuel, hf⟩ := h
  have := open_bytess_at ht hu he hcu hce (v := .slice a len cap) (by simpa [Value.cells] using hf)
  simpa using this

/-- An array of two numbers. -/
theorem open_ints2 {H : Type} {enc : TypeId × Value → H} {P : Program} {w : World} {base b0 : Nat} {r : Reach} {held : Bool} {t e : TypeId} (ht : P.underlying t = some (.array 2 e)) (he : P.underlying e = some (.int .i64)) (hc : P.cellsOf e = 1) (hct : P.cellsOf t = 2)
    {v : Value} {d : DataW H} {p : List MemPlace} (hv : Value.okWide P w r b0 t v) (h : DataW.Trod enc P w base (fun _ => true) held t v d p) : ∃ a b, v = .agg #[.int .i64 a, .int .i64 b] := by
  simp only [Value.okWide, ht] at hv
  obtain ⟨cs, rfl, hsz, _⟩ := hv
  rw [hct] at hsz
  obtain ⟨c0, c1, rfl⟩ : ∃ c0 c1, cs = #[c0, c1] := by
    obtain ⟨l⟩ := cs
    match l, hsz with
    | [c0, c1], _ => exact ⟨c0, c1, rfl⟩
  obtain ⟨fuel, hf⟩ := h
  obtain ⟨xs, m, _, _, _, hx, hel⟩ := DataW.trod_array ht hf
  have h0 := hel 0 (by omega)
  have h1 := hel 1 (by omega)
  rw [hc] at h0 h1
  simp only [Value.cells] at h0 h1
  rw [List.getElem?_eq_getElem (by omega)] at h0 h1
  obtain ⟨a, e0, _⟩ := DataW.trod_int he (by simpa using h0)
  obtain ⟨b, e1, _⟩ := DataW.trod_int he (by simpa using h1)
  simp at e0 e1
  exact ⟨a, b, by rw [e0, e1]⟩

theorem IsBytes.reach {H : Type} {P : Program} {ts : List TypeId} {ds : List (DataW H)} (h : (DataW.weightsEach P ts ds).all (· ≤ reachBytes) = true) {j : Nat} {t e : TypeId} {d : DataW H} {l : List Int} (hd : IsBytes d l)
    (ht : ts[j]? = some t) (hj : ds[j]? = some d) (hu : P.underlying t = some (.slice e)) (hb : P.bytesOf e = 1) : l.length ≤ 140737488351232 := by
  rcases hd with ⟨_, rfl⟩ | ⟨sp, rfl⟩
  · simp
  · have := sized_slice h ht hj hu
    rw [hb] at this
    simp only [lits, List.length_map, reachBytes] at this
    omega
#print axioms open_bytes
end Go.Proofs.Ytbnioibeckifbaa
end

section
namespace Go.Proofs.Ytbnioibeckifbaa
open Go.ChangeShapes Go.RowKit Oct

theorem bulk_one {H : Type} (d : DataW H) : 1 ≤ Rows.uptoBulk d := by
  cases d with
  | lit l => cases l <;> simp [Rows.uptoBulk]
  | nil => simp [Rows.uptoBulk]
  | ptr d => simp [Rows.uptoBulk]
  | slice elems spare => simp [Rows.uptoBulk]
  | agg parts => simp [Rows.uptoBulk]
  | iface t d => simp [Rows.uptoBulk]
  | map entries => simp [Rows.uptoBulk]
  | held h => simp [Rows.uptoBulk]
theorem bulk_part {H : Type} {d : DataW H} {l : List (DataW H)} (h : d ∈ l) : Rows.uptoBulk d ≤ Rows.uptoBulkAll l := by
  induction l with
  | nil => cases h
  | cons x r ih =>
    simp only [Rows.uptoBulkAll]
    cases List.mem_cons.1 h with
    | inl e => subst e; omega
    | inr e => have := ih e; omega
theorem bulk_len {H : Type} (l : List (DataW H)) : l.length ≤ Rows.uptoBulkAll l := by
  induction l with
  | nil => simp [Rows.uptoBulkAll]
  | cons x r ih => have := bulk_one x; simp only [Rows.uptoBulkAll, List.length_cons]; omega
theorem bulk_bytes {H : Type} {d : DataW H} {l : List Int} (h : IsBytes d l) : l.length + 1 ≤ Rows.uptoBulk d := by
  rcases h with ⟨rfl, rfl⟩ | ⟨sp, rfl⟩
  · simp [Rows.uptoBulk]
  · have h1 := bulk_len (H := H) (lits .u8 l)
    simp only [lits, List.length_map] at h1
    simp only [Rows.uptoBulk, lits]
    omega
theorem bulk_all {H : Type} {l : List (DataW H)} (hk : Rows.uptoSmall H l = true) : Rows.uptoBulkAll l ≤ 1048576 := of_decide_eq_true hk
/-- Each of the arguments. -/
theorem bulk_bytes_in {H : Type} {l : List (DataW H)} (hk : Rows.uptoSmall H l = true) {d : DataW H} {b : List Int} (h : IsBytes d b) (hd : d ∈ l) : b.length ≤ 1048576 := by
  have h1 := bulk_all hk
  have h2 := bulk_part hd
  have h3 := bulk_bytes h
  omega
theorem bulk_list {H : Type} : ∀ {ds : List (DataW H)} {ll : List (List Int)}, All2 IsBytes ds ll → tot ll ≤ Rows.uptoBulkAll ds
  | [], [], _ => Nat.zero_le _
  | d :: ds, l :: ll, h => by
    have h1 := bulk_bytes h.1
    have h2 := bulk_list h.2
    simp only [tot, Rows.uptoBulkAll]
    omega
  | [], _ :: _, h => h.elim
  | _ :: _, [], h => h.elim
theorem bulk_bytess {H : Type} {d : DataW H} {ll : List (List Int)} (h : IsBytess d ll) : tot ll + 1 ≤ Rows.uptoBulk d := by
  rcases h with ⟨rfl, rfl⟩ | ⟨ds, sp, rfl, h⟩
  · simp [Rows.uptoBulk, tot]
  · have := bulk_list h
    simp only [Rows.uptoBulk]
    omega
theorem bulk_bytess_in {H : Type} {l : List (DataW H)} (hk : Rows.uptoSmall H l = true) {d : DataW H} {b : List (List Int)} (h : IsBytess d b) (hd : d ∈ l) : tot b ≤ 1048576 := by
  have h1 := bulk_all hk
  have h2 := bulk_part hd
  have h3 := bulk_bytess h
  omega
end Go.Proofs.Ytbnioibeckifbaa
end

section
namespace Go.Proofs.Ytbnioibeckifbaa
open Go.ChangeShapes Go.WideShapes Go.ChangeAt Go.RowKit Oct

/-- How much a thing is. -/
def bT (l : List Int) : Nat := l.length + 1
def bS {α : Type} (f : α → Nat) : List α → Nat
  | [] => 0
  | y :: ys => f y + bS f ys
def bL {α : Type} (f : α → Nat) (ys : List α) : Nat := bS f ys + 1
def bV (x : PVote) : Nat := 2 + bT x.2
def bQ (x : PReq) : Nat := 3 + bT x.2.2.1 + bT x.2.2.2
def bP (x : PPrep) : Nat := 5 + bQ x.2.2.1 + bL bV x.2.2.2
def bR (x : PRep) : Nat := 6 + bT x.2.2.2.1 + bL bV x.2.2.2.2.1 + bL bP x.2.2.2.2.2.1 + bT x.2.2.2.2.2.2
def bM (m : PMsg) : Nat := 10 + bQ m.req + bQ m.oth + bT m.data + bT m.sig + bL bV m.cert + bL bV m.votes + bL (fun _ => 1) m.order + bL bQ m.picks + bL bR m.reps

/-- What reads as a thing of type t is one by R. -/
def Opn {H : Type} (enc : TypeId × Value → H) (P : Program) (w : World) (base : Nat) (held : Bool) (t : TypeId) {α : Type} (R : List Value → α → Prop) (bk : α → Nat) (sz : α → Prop) : Prop :=
  ∀ fuel cs x, DataW.trod enc P w base (fun _ => true) held fuel t cs = some x → ∃ y, R cs y ∧ bk y ≤ Rows.uptoBulk x.1 ∧ ((∀ n ∈ x.1.weights P t, n ≤ reachBytes) → sz y)

theorem fld {H : Type} {enc : TypeId × Value → H} {P : Program} {w : World} {base n : Nat} {held : Bool} {fs : Array Field} {cs : List Value} {xs : List (DataW H × List MemPlace)}
    (hf : ∀ (i : Nat) (f : Field), fs[i]? = some f → DataW.trod enc P w base (fun _ => true) held n f.type ((cs.drop f.offset).take (P.cellsOf f.type)) = xs[i]?)
    (i : Nat) {f : Field} (e : fs[i]? = some f) {T off k : Nat} (hT : f.type = T) (ho : f.offset = off) (hc : P.cellsOf T = k) {cs' : List Value} {x' : DataW H × List MemPlace} (hcs : (cs.drop off).take k = cs') (hx : xs[i]? = some x') :
    DataW.trod enc P w base (fun _ => true) held n T cs' = some x' := by
  have := hf i f e
  rw [hT, ho, hc, hcs, hx] at this
  exact this

theorem add_add_plain (b o m j : Nat) : ((⟨b, o, none⟩ : Addr).add m).add j = ⟨b, o + m + j, none⟩ := by
  unfold Addr.add
  by_cases h1 : m = 0 <;> by_cases h2 : j = 0 <;> simp [h1, h2]
theorem of2 {α : Type} {l : List α} (h : l.length = 2) : ∃ c0 c1, l = [c0, c1] := by match l, h with | [c0, c1], _ => exact ⟨c0, c1, rfl⟩
theorem of4 {α : Type} {l : List α} (h : l.length = 4) : ∃ c0 c1 c2 c3, l = [c0, c1, c2, c3] := by match l, h with | [c0, c1, c2, c3], _ => exact ⟨c0, c1, c2, c3, rfl⟩
theorem of7 {α : Type} {l : List α} (h : l.length = 7) : ∃ c0 c1 c2 c3 c4 c5 c6, l = [c0, c1, c2, c3, c4, c5, c6] := by match l, h with | [c0, c1, c2, c3, c4, c5, c6], _ => exact ⟨c0, c1, c2, c3, c4, c5, c6, rfl⟩
theorem of8 {α : Type} {l : List α} (h : l.length = 8) : ∃ c0 c1 c2 c3 c4 c5 c6 c7, l = [c0, c1, c2, c3, c4, c5, c6, c7] := by match l, h with | [c0, c1, c2, c3, c4, c5, c6, c7], _ => exact ⟨c0, c1, c2, c3, c4, c5, c6, c7, rfl⟩
theorem of16 {α : Type} {l : List α} (h : l.length = 16) : ∃ c0 c1 c2 c3 c4 c5 c6 c7 c8 c9 c10 c11 c12 c13 c14 c15, l = [c0, c1, c2, c3, c4, c5, c6, c7, c8, c9, c10, c11, c12, c13, c14, c15] := by match l, h with | [c0, c1, c2, c3, c4, c5, c6, c7, c8, c9, c10, c11, c12, c13, c14, c15], _ => exact ⟨c0, c1, c2, c3, c4, c5, c6, c7, c8, c9, c10, c11, c12, c13, c14, c15, rfl⟩
theorem of23 {α : Type} {l : List α} (h : l.length = 23) : ∃ c0 c1 c2 c3 c4 c5 c6 c7 c8 c9 c10 c11 c12 c13 c14 c15 c16 c17 c18 c19 c20 c21 c22, l = [c0, c1, c2, c3, c4, c5, c6, c7, c8, c9, c10, c11, c12, c13, c14, c15, c16, c17, c18, c19, c20, c21, c22] := by match l, h with | [c0, c1, c2, c3, c4, c5, c6, c7, c8, c9, c10, c11, c12, c13, c14, c15, c16, c17, c18, c19, c20, c21, c22], _ => exact ⟨c0, c1, c2, c3, c4, c5, c6, c7, c8, c9, c10, c11, c12, c13, c14, c15, c16, c17, c18, c19, c20, c21, c22, rfl⟩

theorem opn_text {H : Type} {enc : TypeId × Value → H} {w : World} {base : Nat} {held : Bool} : Opn enc Try.prog w base held 23 (fun cs l => ∃ v, cs = [v] ∧ RT Any w v l) bT szT := by
  intro fuel cs x h
  obtain ⟨v, rfl⟩ : ∃ v, cs = [v] := by
    rcases DataW.trod_slice Try.underlying23 h with ⟨e, _⟩ | ⟨a, len, cap, elems, rest, n, _, e, _⟩ <;> exact ⟨_, e⟩
  obtain ⟨l, h1, h2⟩ := open_bytes_at Try.underlying23 Try.underlying5 (by kernel_rfl) h
  refine ⟨l, ⟨v, rfl, h1, fun _ _ _ => trivial⟩, bulk_bytes h2, fun hn => ?_⟩
  rcases h2 with ⟨_, rfl⟩ | ⟨sp, e⟩
  · exact Nat.zero_le _
  · rw [e] at hn
    have := hn ((lits .u8 l).length * Try.prog.bytesOf 5 + sp.length * Try.prog.bytesOf 5) (by simp only [DataW.weights, Try.underlying23, Nat.add_mul]; exact .head _)
    rw [show Try.prog.bytesOf 5 = 1 by kernel_rfl] at this
    simp only [lits, List.length_map, reachBytes] at this
    show l.length ≤ _
    omega

theorem weights_in {H : Type} {P : Program} {e : TypeId} {n : Nat} : ∀ {ds : List (DataW H)} {d : DataW H}, d ∈ ds → n ∈ d.weights P e → n ∈ DataW.weightsAll P e ds
  | y :: ys, d, h, hn => by
    simp only [DataW.weightsAll, List.mem_append]
    cases List.mem_cons.1 h with
    | inl e => subst e; exact .inl hn
    | inr e => exact .inr (weights_in e hn)

theorem addr_plain {w : World} {a : Addr} {v : Value} (h : w.cell? a = some v) : a = ⟨a.block, a.off, none⟩ ∧ a.block < w.heap.size := by
  obtain ⟨b, o, s⟩ := a
  unfold World.cell? at h
  split at h
  · rename_i c e1 e2 hh
    split at h
    · cases h
    · rename_i hs
      refine ⟨?_, ?_⟩
      · cases s with
        | none => rfl
        | some k => simp at hs
      · exact (Array.getElem?_eq_some_iff.1 hh).1
  · cases h

theorem opn_list {H : Type} {enc : TypeId × Value → H} {P : Program} {w : World} {base : Nat} {held : Bool} {t e : TypeId} {α : Type} {R : (Nat → Prop) → World → List Value → α → Prop} {bk : α → Nat} {sz : α → Prop} {k b : Nat}
    (ht : P.underlying t = some (.slice e)) (hc : P.cellsOf e = k) (hb : P.bytesOf e = b) (hk : 0 < k) (He : Opn enc P w base held e (R Any w) bk sz) :
    Opn enc P w base held t (fun cs ys => ∃ v, cs = [v] ∧ RL R k Any w v ys) (bL bk) (szL b sz) := by
  intro fuel cs x h
  rcases DataW.trod_slice ht h with ⟨rfl, rfl⟩ | ⟨a, len, cap, elems, rest, n, rfl, rfl, rfl, _, hl, hm, hlen, hel, _, _⟩
  · exact ⟨[], ⟨_, rfl, RL.nil R k Any w⟩, by simp [bL, bS, Rows.uptoBulk], fun _ => ⟨by simp, fun y hy => by cases hy⟩⟩
  · rw [hc] at hel
    have each : ∀ i (hi : i < elems.length), ∃ r y, r.length = k ∧ w.cells? base (a.add (i * k)) k = some r ∧ R Any w r y ∧ bk y ≤ Rows.uptoBulk elems[i].1 ∧ ((∀ n ∈ elems[i].1.weights P e, n ≤ reachBytes) → sz y) := fun i hi => by
      have h1 := hel i (by omega)
      rw [List.getElem?_eq_getElem hi] at h1
      obtain ⟨r, hr1, hr2⟩ := Option.bind_eq_some_iff.1 h1
      obtain ⟨y, g1, g2, g3⟩ := He n r _ hr2
      exact ⟨r, y, (World.cells?_some hr1).2.1, hr1, g1, g2, g3⟩
    clear hel h
    obtain ⟨rows, ys, q1, q2, q3, q4, q5⟩ : ∃ (rows : List (List Value)) (ys : List α), rows.length = elems.length ∧ All2 (R Any w) rows ys ∧ (∀ i r, rows[i]? = some r → r.length = k ∧ w.cells? base (a.add (i * k)) k = some r) ∧ bS bk ys ≤ Rows.uptoBulkAll (elems.map (·.1)) ∧
        ((∀ n ∈ DataW.weightsAll P e (elems.map (·.1)), n ≤ reachBytes) → ∀ y ∈ ys, sz y) := by
      clear hl hm hlen
      have key : ∀ (es : List (DataW H × List MemPlace)) (o : Nat), (∀ i (hi : i < es.length), ∃ r y, r.length = k ∧ w.cells? base (a.add ((o + i) * k)) k = some r ∧ R Any w r y ∧ bk y ≤ Rows.uptoBulk es[i].1 ∧ ((∀ n ∈ es[i].1.weights P e, n ≤ reachBytes) → sz y)) →
          ∃ (rows : List (List Value)) (ys : List α), rows.length = es.length ∧ All2 (R Any w) rows ys ∧ (∀ i r, rows[i]? = some r → r.length = k ∧ w.cells? base (a.add ((o + i) * k)) k = some r) ∧ bS bk ys ≤ Rows.uptoBulkAll (es.map (·.1)) ∧
            ((∀ n ∈ DataW.weightsAll P e (es.map (·.1)), n ≤ reachBytes) → ∀ y ∈ ys, sz y) := by
        intro es
        induction es with
        | nil => exact fun o _ => ⟨[], [], rfl, trivial, fun i r h => by simp at h, by simp [bS], fun _ y hy => by cases hy⟩
        | cons x es ih =>
          intro o hh
          obtain ⟨rows, ys, q1, q2, q3, q4, q5⟩ := ih (o + 1) (fun i hi => by
            obtain ⟨r, y, g⟩ := hh (i + 1) (by simp; omega)
            refine ⟨r, y, ?_⟩
            simp only [List.getElem_cons_succ] at g
            rw [show o + (i + 1) = o + 1 + i by omega] at g
            exact g)
          obtain ⟨r, y, g1, g2, g3, g4, g5⟩ := hh 0 (by simp)
          simp only [List.getElem_cons_zero] at g4 g5
          refine ⟨r :: rows, y :: ys, by simp [q1], ⟨g3, q2⟩, fun i r' hr' => ?_, ?_, fun hn y' hy' => ?_⟩
          · cases i with
            | zero => simp at hr'; subst hr'; exact ⟨g1, g2⟩
            | succ i =>
              simp at hr'
              have := q3 i r' hr'
              rw [show o + 1 + i = o + (i + 1) by omega] at this
              exact this
          · simp only [bS, List.map_cons, Rows.uptoBulkAll]; omega
          · simp only [List.map_cons, DataW.weightsAll, List.mem_append] at hn
            cases List.mem_cons.1 hy' with
            | inl e => subst e; exact g5 fun n h => hn n (.inl h)
            | inr e => exact q5 (fun n h => hn n (.inr h)) y' e
      obtain ⟨rows, ys, q⟩ := key elems 0 (fun i hi => by
        obtain ⟨r, y, g⟩ := each i hi
        refine ⟨r, y, ?_⟩
        rw [Nat.zero_add]
        exact g)
      refine ⟨rows, ys, ?_⟩
      simp only [Nat.zero_add] at q
      exact q
    have hyl := q2.len
    refine ⟨ys, ⟨_, rfl, rows, ⟨fun r hr => ?_, ?_⟩, q2⟩, ?_, fun hn => ⟨?_, q5 fun n h => hn n ?_⟩⟩
    · obtain ⟨i, hi, e⟩ := List.mem_iff_getElem.1 hr
      exact (q3 i r (by rw [← e]; exact List.getElem?_eq_getElem hi)).1
    · rcases Nat.eq_zero_or_pos rows.length with h0 | h0
      · refine .inl ⟨some a, cap, ?_, List.length_eq_zero_iff.1 h0, hm⟩
        have : len = 0 := by omega
        rw [this]
      · have h1 := q3 0 _ (List.getElem?_eq_getElem h0)
        have h2 := (World.cells?_some h1.2).2.2 0 hk
        have hr0 : 0 < (rows[0]).length := by omega
        rw [List.getElem?_eq_getElem hr0] at h2
        have ha : a = ⟨a.block, a.off, none⟩ ∧ a.block < w.heap.size := by
          have : (a.add (0 * k)).add 0 = a := by simp [Addr.add]
          rw [this] at h2
          exact addr_plain h2
        refine .inr ⟨a.block, a.off, cap, ?_, by omega, hm, h0, trivial, ha.2, fun i r hr j v hv => ?_⟩
        · have : len = rows.length := by omega
          rw [this, ← ha.1]
        · have hj : j < r.length := (List.getElem?_eq_some_iff.1 hv).1
          have h3 := q3 i r hr
          have h4 := (World.cells?_some h3.2).2.2 j (by omega)
          rw [← hv, ← h4]
          congr 1
          rw [ha.1]
          exact (add_add_plain _ _ _ _).symm
    · simp only [bL, Rows.uptoBulk]; omega
    · have h6 := hn ((elems.map (·.1)).length * P.bytesOf e + (rest.map (·.1)).length * P.bytesOf e) (by simp [DataW.weights, ht, Nat.add_mul])
      rw [hb] at h6
      simp only [List.length_map, reachBytes] at h6
      have : ys.length = elems.length := by omega
      rw [this]
      omega
    · simp only [DataW.weights, ht, List.mem_cons, List.mem_append]
      exact .inr (.inl h)

section
variable {H : Type} {enc : TypeId × Value → H} {w : World} {base : Nat} {held : Bool}

theorem opn_int : Opn enc Try.prog w base held 3 (RInt Any w) (fun _ => 1) (fun _ => True) := by
  intro fuel cs x h
  obtain ⟨n, rfl, rfl, _⟩ := DataW.trod_int Try.underlying3 h
  exact ⟨n, rfl, by simp [Rows.uptoBulk], fun _ => trivial⟩

/-- The parts of a struct weigh no more. -/
theorem weights_fld {P : Program} {t : TypeId} {fs : Array Field} (ht : P.underlying t = some (.struct fs)) {ds : List (DataW H)} (hn : ∀ n ∈ (DataW.agg ds).weights P t, n ≤ reachBytes) (i : Nat) {f : Field} (e : fs[i]? = some f) {T : TypeId} (hT : f.type = T) {d : DataW H} (hd : ds[i]? = some d) :
    ∀ n ∈ d.weights P T, n ≤ reachBytes := fun n h => by
  refine hn n ?_
  simp only [DataW.weights, ht]
  refine DataW.weights_mem_each (j := i) (t := T) ?_ hd n h
  rw [List.getElem?_map]
  rw [← Array.getElem?_toList] at e
  rw [e, ← hT]
  rfl

theorem cells_int : Try.prog.cellsOf 3 = 1 := by kernel_rfl
theorem cells_text : Try.prog.cellsOf 23 = 1 := by kernel_rfl

end
#print axioms opn_text
end Go.Proofs.Ytbnioibeckifbaa
end

section
namespace Go.Proofs.Ytbnioibeckifbaa
open Go.ChangeShapes Go.WideShapes Go.ChangeAt Go.RowKit Oct Kvl

def bE (x : PEnt) : Nat := 1 + bT x.1 + bT x.2
def bO (x : POp) : Nat := 3 + bT x.2.1 + bT x.2.2.1 + bT x.2.2.2.1
theorem of5K {α : Type} {l : List α} (h : l.length = 5) : ∃ c0 c1 c2 c3 c4, l = [c0, c1, c2, c3, c4] := by match l, h with | [c0, c1, c2, c3, c4], _ => exact ⟨c0, c1, c2, c3, c4, rfl⟩
section
variable {H : Type} {enc : TypeId × Value → H} {w : World} {base : Nat} {held : Bool}
theorem opn_ent : Opn enc Try.prog w base held 37 (REnt Any w) bE szE := by
  intro fuel cs x h
  obtain ⟨xs, n, rfl, rfl, hl, hxl, hf⟩ := DataW.trod_struct Try.underlying37 h
  have hxl : xs.length = 2 := hxl
  rw [show Try.prog.cellsOf 37 = 2 by kernel_rfl] at hl
  obtain ⟨c0, c1, rfl⟩ : ∃ c0 c1, cs = [c0, c1] := of2 hl
  obtain ⟨x0, x1, rfl⟩ : ∃ x0 x1, xs = [x0, x1] := of2 hxl
  have h0 := fld hf 0 rfl rfl rfl cells_text (cs' := [c0]) rfl rfl
  have h1 := fld hf 1 rfl rfl rfl cells_text (cs' := [c1]) rfl rfl
  obtain ⟨y0, ⟨v0, e0, g0⟩, b0, s0⟩ := opn_text _ _ _ h0
  obtain ⟨y1, ⟨v1, e1, g1⟩, b1, s1⟩ := opn_text _ _ _ h1
  cases e0
  cases e1
  refine ⟨(y0, y1), ⟨_, _, rfl, g0, g1⟩, ?_, fun hn => ⟨s0 (weights_fld Try.underlying37 hn 0 rfl rfl rfl), s1 (weights_fld Try.underlying37 hn 1 rfl rfl rfl)⟩⟩
  simp only [bE, Rows.uptoBulk, Rows.uptoBulkAll, List.map_cons, List.map_nil]
  omega
theorem opn_ents : Opn enc Try.prog w base held 22 (fun cs ys => ∃ v, cs = [v] ∧ RL REnt 2 Any w v ys) (bL bE) (szL 48 szE) := opn_list Try.underlying22 (by kernel_rfl) (by kernel_rfl) (by decide) opn_ent
theorem opn_op : Opn enc Try.prog w base held 25 (ROp Any w) bO szO := by
  intro fuel cs x h
  obtain ⟨xs, n, rfl, rfl, hl, hxl, hf⟩ := DataW.trod_struct Try.underlying25 h
  have hxl : xs.length = 5 := hxl
  rw [show Try.prog.cellsOf 25 = 5 by kernel_rfl] at hl
  obtain ⟨c0, c1, c2, c3, c4, rfl⟩ := of5K hl
  obtain ⟨x0, x1, x2, x3, x4, rfl⟩ := of5K hxl
  have h0 := fld hf 0 rfl rfl rfl cells_int (cs' := [c0]) rfl rfl
  have h1 := fld hf 1 rfl rfl rfl cells_text (cs' := [c1]) rfl rfl
  have h2 := fld hf 2 rfl rfl rfl cells_text (cs' := [c2]) rfl rfl
  have h3 := fld hf 3 rfl rfl rfl cells_text (cs' := [c3]) rfl rfl
  have h4 := fld hf 4 rfl rfl rfl cells_int (cs' := [c4]) rfl rfl
  obtain ⟨y0, g0, (b0 : 1 ≤ _), _⟩ := opn_int _ _ _ h0
  obtain ⟨y1, ⟨v1, e1, g1⟩, b1, s1⟩ := opn_text _ _ _ h1
  obtain ⟨y2, ⟨v2, e2, g2⟩, b2, s2⟩ := opn_text _ _ _ h2
  obtain ⟨y3, ⟨v3, e3, g3⟩, b3, s3⟩ := opn_text _ _ _ h3
  obtain ⟨y4, g4, (b4 : 1 ≤ _), _⟩ := opn_int _ _ _ h4
  cases g0
  cases e1
  cases e2
  cases e3
  cases g4
  refine ⟨(y0, y1, y2, y3, y4), ⟨_, _, _, rfl, g1, g2, g3⟩, ?_, fun hn => ⟨s1 (weights_fld Try.underlying25 hn 1 rfl rfl rfl), s2 (weights_fld Try.underlying25 hn 2 rfl rfl rfl), s3 (weights_fld Try.underlying25 hn 3 rfl rfl rfl)⟩⟩
  simp only [bO, Rows.uptoBulk, Rows.uptoBulkAll, List.map_cons, List.map_nil]
  omega
end
theorem open_aggK {P : Program} {w : World} {b0 : Nat} {r : Reach} {t : TypeId} {fs : Array Field} {k : Nat} (ht : P.underlying t = some (.struct fs)) (hct : P.cellsOf t = k) {v : Value} (hv : Value.okWide P w r b0 t v) : ∃ cs : List Value, v = .agg cs.toArray ∧ cs.length = k := by
  simp only [Value.okWide, ht] at hv
  obtain ⟨cs, rfl, hsz, _⟩ := hv
  exact ⟨cs.toList, by simp, by simpa [hct] using hsz⟩
theorem cells_op : Try.prog.cellsOf 25 = 5 := by kernel_rfl
set_option maxRecDepth 100000 in
theorem open_op {H : Type} {enc : TypeId × Value → H} {w : World} {base b0 : Nat} {r : Reach} {held : Bool} {v : Value} {d : DataW H} {p : List MemPlace} (hv : Value.okWide Try.prog w r b0 25 v) (h : DataW.Trod enc Try.prog w base (fun _ => true) held 25 v d p) :
    ∃ (q : List Value) (x : POp), v = .agg q.toArray ∧ ROp Any w q x ∧ bO x ≤ Rows.uptoBulk d ∧ ((∀ n ∈ d.weights Try.prog 25, n ≤ reachBytes) → szO x) := by
  obtain ⟨cs, rfl, hl⟩ := open_aggK Try.underlying25 cells_op hv
  obtain ⟨fuel, hf⟩ := h
  obtain ⟨y, h1, h2, h3⟩ := opn_op fuel _ _ hf
  exact ⟨cs, y, rfl, by simpa [Value.cells] using h1, h2, h3⟩
theorem open_ents {H : Type} {enc : TypeId × Value → H} {w : World} {base : Nat} {held : Bool} {v : Value} {d : DataW H} {p : List MemPlace} (hone : v.cells.toList = [v]) (h : DataW.Trod enc Try.prog w base (fun _ => true) held 22 v d p) :
    ∃ ys : List PEnt, RL REnt 2 Any w v ys ∧ bL bE ys ≤ Rows.uptoBulk d ∧ ((∀ n ∈ d.weights Try.prog 22, n ≤ reachBytes) → szL 48 szE ys) := by
  obtain ⟨fuel, hf⟩ := h
  obtain ⟨ys, ⟨u, e, h1⟩, h2, h3⟩ := opn_ents fuel _ _ hf
  rw [hone] at e
  cases e
  exact ⟨ys, h1, h2, h3⟩
theorem weightsK_arg {H : Type} {P : Program} {ts : List TypeId} {ds : List (DataW H)} (h : (DataW.weightsEach P ts ds).all (· ≤ reachBytes) = true) {j : Nat} {t : TypeId} {d : DataW H} (ht : ts[j]? = some t) (hd : ds[j]? = some d) : ∀ n ∈ d.weights P t, n ≤ reachBytes := fun n hn => by
  have := List.all_eq_true.1 h _ (DataW.weights_mem_each ht hd n hn)
  simpa using this
end Go.Proofs.Ytbnioibeckifbaa
end

section
namespace Go.Proofs.Ytbnioibeckifbaa
open Go.ChangeShapes Go.WideShapes Go.ChangeAt Go.RowKit Oct Kvl

def bLe (x : PEnt) : Nat := 3 + bT x.1
theorem of3S {α : Type} {l : List α} (h : l.length = 3) : ∃ c0 c1 c2, l = [c0, c1, c2] := by match l, h with | [c0, c1, c2], _ => exact ⟨c0, c1, c2, rfl⟩
section
variable {H : Type} {enc : TypeId × Value → H} {w : World} {base : Nat} {held : Bool}
set_option maxRecDepth 100000 in
theorem opn_lea : Opn enc Try.prog w base held 50 (RLea Any w) bLe szS := by
  intro fuel cs x h
  obtain ⟨xs, n, rfl, rfl, hl, hxl, hf⟩ := DataW.trod_struct Try.underlying50 h
  have hxl : xs.length = 3 := hxl
  rw [show Try.prog.cellsOf 50 = 3 by kernel_rfl] at hl
  obtain ⟨c0, c1, c2, rfl⟩ := of3S hl
  obtain ⟨x0, x1, x2, rfl⟩ := of3S hxl
  have h0 := fld hf 0 rfl rfl rfl cells_text (cs' := [c0]) rfl rfl
  have h1 := fld hf 1 rfl rfl rfl cells_int (cs' := [c1]) rfl rfl
  have h2 := fld hf 2 rfl rfl rfl cells_int (cs' := [c2]) rfl rfl
  obtain ⟨y0, ⟨v0, e0, g0⟩, b0, s0⟩ := opn_text _ _ _ h0
  obtain ⟨y1, g1, (b1 : 1 ≤ _), _⟩ := opn_int _ _ _ h1
  obtain ⟨y2, g2, (b2 : 1 ≤ _), _⟩ := opn_int _ _ _ h2
  cases e0
  cases g1
  cases g2
  refine ⟨(y0, [y1, y2]), ⟨_, _, _, rfl, g0, rfl⟩, ?_, fun hn => s0 (weights_fld Try.underlying50 hn 0 rfl rfl rfl)⟩
  simp only [bLe, Rows.uptoBulk, Rows.uptoBulkAll, List.map_cons, List.map_nil]
  omega
theorem opn_leas : Opn enc Try.prog w base held 42 (fun cs ys => ∃ v, cs = [v] ∧ RL RLea 3 Any w v ys) (bL bLe) (szL 40 szS) := opn_list Try.underlying42 (by kernel_rfl) (by kernel_rfl) (by decide) opn_lea
end
theorem open_leas {H : Type} {enc : TypeId × Value → H} {w : World} {base : Nat} {held : Bool} {v : Value} {d : DataW H} {p : List MemPlace} (hone : v.cells.toList = [v]) (h : DataW.Trod enc Try.prog w base (fun _ => true) held 42 v d p) :
    ∃ ys : List PEnt, RL RLea 3 Any w v ys ∧ bL bLe ys ≤ Rows.uptoBulk d ∧ ((∀ n ∈ d.weights Try.prog 42, n ≤ reachBytes) → szL 40 szS ys) := by
  obtain ⟨fuel, hf⟩ := h
  obtain ⟨ys, ⟨u, e, h1⟩, h2, h3⟩ := opn_leas fuel _ _ hf
  rw [hone] at e
  cases e
  exact ⟨ys, h1, h2, h3⟩
end Go.Proofs.Ytbnioibeckifbaa
end

section
namespace Go.Proofs.Ytbnioibeckifbaa
open Go.ChangeShapes Go.WideShapes Go.ChangeAt Go.RowKit

theorem leaseKeeps_own : ownKnob Try.prog.godebug = none := by kernel_rfl
theorem leaseKeeps_laidOut : laidOutB Try.prog = true := by kernel_rfl
theorem leaseKeeps_cells5 : Try.prog.cellsOf 5 = 1 := by kernel_rfl
theorem leaseKeeps_bytes5 : Try.prog.bytesOf 5 = 1 := by kernel_rfl

set_option maxRecDepth 100000 in
theorem leaseKeeps_lifted (os : Os) (started : os.Started) (H : Type) (enc : TypeId × Value → H) :
    ReturnsInHanded {} Try.checked os 6 .any (Rows.leaseKeepsSpec.pre6 enc Try.prog Try.f6 Rows.leaseKeepsRow.domain false) (Rows.leaseKeepsSpec.post enc Try.prog Try.f6 false true false false) := by
  refine returnsInHanded_of_change_sized (C := Try.checked) leaseKeeps_own started (by kernel_rfl) Try.func6
    (ChangeSpec.witness6 (enc := enc) (C := Try.checked) false ⟨#[], #[.slice none 0 0, .agg #[.int .i64 0, .slice none 0 0, .slice none 0 0, .slice none 0 0, .int .i64 0], .agg #[.int .i64 0, .int .i64 0]], []⟩ 8 (by kernel_rfl) (by kernel_rfl) (by kernel_rfl) (by kernel_rfl)) ?_
  intro W base args ds gs before hval0 hW _ hsz0 _
  have hval : ∀ (j : Nat) t v, Try.f6.params[j]? = some t → args[j]? = some v → Value.okWide Try.prog W .any base t v := hval0
  have hsz : (DataW.weightsEach Try.prog (Try.f6.params.toList ++ Rows.leaseKeepsSpec.plain.varTypes Try.prog) (ds ++ gs)).all (· ≤ reachBytes) = true := hsz0
  have hW' := hW
  obtain ⟨p, q, hA0, hV, rfl, hfz, hnd⟩ := hW
  have hA : DataW.TrodAll enc Try.prog W 0 (fun _ => true) true Try.f6.params.toList args.toList ds p := hA0
  rw [Try.params6] at hA hval hsz
  obtain ⟨v0, vs0, d0, ds0, p0, q0, hargs, rfl, rfl, h0, r0⟩ := trodAll_cons hA
  obtain ⟨v1, vs1, d1, ds1, p1, q1, rfl, rfl, rfl, h1, r1⟩ := trodAll_cons r0
  obtain ⟨v2, vs2, d2, ds2, p2, q2, rfl, rfl, rfl, h2, r2⟩ := trodAll_cons r1
  obtain ⟨rfl, rfl, rfl⟩ := trodAll_nil r2
  obtain rfl : args = #[v0, v1, v2] := by cases args; simp_all
  obtain ⟨rfl, rfl⟩ := trodVars_none hV
  obtain ⟨a0, len0, cap0, rfl⟩ := okWide_slice Try.underlying42 (hval 0 42 v0 rfl rfl)
  have lt0 : ∀ x ∈ p0, x.block < W.heap.size := by obtain ⟨m, hm⟩ := h0; exact DataW.trod_lt m _ _ _ hm
  obtain ⟨ys0, hrd0, hb0, hz0⟩ := open_leas rfl h0
  have hlen0 := hz0 (weightsK_arg hsz (j := 0) rfl rfl)
  have lt1 : ∀ x ∈ p1, x.block < W.heap.size := by obtain ⟨m, hm⟩ := h1; exact DataW.trod_lt m _ _ _ hm
  obtain ⟨c1, x1, rfl, hrd1, hb1, hz1⟩ := open_op (hval 1 25 v1 rfl rfl) h1
  have hlen1 := hz1 (weightsK_arg hsz (j := 1) rfl rfl)
  clear hb1 hz1
  have lt2 : ∀ x ∈ p2, x.block < W.heap.size := by obtain ⟨m, hm⟩ := h2; exact DataW.trod_lt m _ _ _ hm
  obtain ⟨a2, b2, rfl⟩ := open_ints2 Try.underlying43 Try.underlying3 (by kernel_rfl) (by kernel_rfl) (hval 2 43 v2 rfl rfl) h2
  clear hA0
  refine (keepsS_any W _ ys0 c1 x1 a2 b2 hrd0 hrd1 hlen0 hlen1).mono fun e W' ⟨he, bel⟩ => ?_
  subst he
  exact ⟨_, rfl, _, _, _, [], _, [], hW', trodAll_mk1 (shut_bool Try.underlying4 _), (trodAll_cons_mk (Below.trod leaseKeeps_laidOut (by kernel_rfl) (of_decide_eq_true (by kernel_rfl)) h0 bel lt0) (trodAll_cons_mk (Below.trod leaseKeeps_laidOut (by kernel_rfl) (of_decide_eq_true (by kernel_rfl)) h1 bel lt1) (trodAll_cons_mk (Below.trod leaseKeeps_laidOut (by kernel_rfl) (of_decide_eq_true (by kernel_rfl)) h2 bel lt2) trodAll_mk0))), rfl, bel.frame _, fun h => by cases h⟩

theorem leaseKeeps_proved : Rows.LeaseKeepsSaid :=
  OpenClaim.holds_of_wide 6 Try.f6 rfl rfl rfl rfl rfl rfl rfl ⟨rfl, rfl, rfl, rfl, rfl⟩ rfl rfl rfl rfl rfl (by kernel_rfl) Try.func6 (by kernel_rfl)
    (of_decide_eq_true (by kernel_rfl)) (by unfold Func.isWrapper; first | (rw [if_pos (by decide +kernel)]; kernel_rfl) | (rw [if_neg (by decide +kernel)]; exact ⟨rfl, rfl⟩))
    (fun os started H enc _ => leaseKeeps_lifted os started H enc)
#print axioms leaseKeeps_proved
end Go.Proofs.Ytbnioibeckifbaa
end
