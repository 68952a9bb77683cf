/- The document's Do of leases: its walk. -/
import Derived.Test.YtejkkhlblnepeaaGreatKw
import Derived.Test.YtejkkhlblnepeaaGreatHE
import Derived.Test.YtejkkhlblnepeaaGreatHC
section
set_option linter.unusedVariables false
set_option linter.unusedSimpArgs false
namespace Go.Proofs.YtejkkhlblnepeaaGreat
open Go.RowKit Oct Kvl

/-- Entries whose texts lie in memory that was there in w0. -/
def RSG (GG : Nat → Prop) (w0 : World) (G : Nat → Prop) (w : World) (r : List Value) (x : PEnt) : Prop := ∀ u, Below w0.heap.size w0 u → REnt GG u r x
theorem mov_rsG {GG : Nat → Prop} (w0 : World) : Mov (RSG GG w0) := fun _ _ _ _ _ _ h _ _ => h
theorem RSG.of {GG : Nat → Prop} {w0 : World} {r : List Value} {x : PEnt} (h : REnt GG w0 r x) (G : Nat → Prop) (w : World) : RSG GG w0 G w r x := fun u hu => mov_ent _ _ _ _ _ _ h hu.size (Mv.belowG hu)
theorem LB.rsG {GG : Nat → Prop} {w0 w : World} {B : Nat} {v : Value} {zs : List PEnt} (h : LB (RSG GG w0) 82 2 B w v zs) (hb : Below w0.heap.size w0 w) (hG : ∀ k, B ≤ k → GG k) : RL REnt 2 GG w v zs := by
  obtain ⟨rows, h1, h2⟩ := (h.rl (mov_rsG w0)).mv (mov_rsG w0) (Nat.le_refl _) (fun k hk _ => ⟨rfl, hG k hk⟩)
  exact ⟨rows, h1, h2.mono fun r a h => h w hb⟩
theorem LB.grownSG {GG : Nat → Prop} {w0 w w' : World} {v : Value} {zs : List PEnt} {B b : Nat} (h : LB (RSG GG w0) 82 2 B w v zs) (hg : w.grownBy w' (some b)) (hn : v.ownBlock ≠ some b) : LB (RSG GG w0) 82 2 B w' v zs := by
  obtain ⟨rows, h0, h1, h2, h3⟩ := h
  exact ⟨rows, h0, World.ownsRow.kept h1 hg (.inr hn), h2, h3⟩
theorem one_EG {GG : Nat → Prop} {w : World} {r : List Value} {x : PEnt} (h : REnt GG w r x) : ∀ u ∈ r, u.oneCell' = true := one_RE h

set_option maxRecDepth 10000 in
set_option maxHeartbeats 8000000 in
theorem refWithG_some {GG : Nat → Prop} (w00 w : World) (h00 : Below w00.heap.size w00 w) (bb off cap : Nat) (ys : List PEnt) (hl : 0 < ys.length) (h64 : ys.length ≤ 64) (hc : ys.length ≤ cap) (hm : cap ≤ maxLen) (hbb : bb < w.heap.size)
    (hx : ∀ (i : Nat) (a : PEnt), ys[i]? = some a → ∃ r, r.length = 2 ∧ w.rangeAt bb (off + i * 2) r ∧ REnt GG w00 r a) (nv vv : Value) (n v : List Int) (hn : RT GG w00 nv n) (hv : RT GG w00 vv v) :
    Calls Tryz.prog 67 #[.slice (some ⟨bb, off, none⟩) ys.length cap, nv, vv] w fun e w' => ∃ v', e = .returned v' ∧ LB (RSG GG w00) 82 2 w.heap.size w' v' (wiF n v false ys) ∧ Below w.heap.size w w' := by
  have HX := (show Hid (∀ (i : Nat) (a : PEnt), ys[i]? = some a → ∃ r, r.length = 2 ∧ w.rangeAt bb (off + i * 2) r ∧ REnt GG w00 r a) from hx)
  have hlm : (ys.length : Int) ≤ 9223372036854775807 := by omega
  obtain ⟨an, cn, rfl, hcn⟩ := hn.form
  obtain ⟨av, cv, rfl, hcv⟩ := hv.form
  have HNV := (show Hid (REnt GG w00 [.slice an n.length cn, .slice av v.length cv] (n, v)) from ⟨_, _, rfl, hn, hv⟩)
  have HS := (show Hid (∀ (u : World) (s : Value) (l : List Int), Below w00.heap.size w00 u → RT GG w00 s l → Calls Tryz.prog 40 #[s, .slice an n.length cn] u fun e w' => e = .returned (.bool (decide (l = n))) ∧ w' = u) from fun u s l hu hs => same_any u _ _ _ _ (hs.mv (Mv.belowG hu)).1 (hn.mv (Mv.belowG hu)).1)
  have HLe := (show Hid (∀ (u : World) (s : Value) (l : List Int), Below w00.heap.size w00 u → RT GG w00 s l → Calls Tryz.prog 76 #[.slice an n.length cn, s] u fun e w' => e = .returned (.bool (decide (cmpL n l < 0))) ∧ w' = u) from fun u s l hu hs => less_any u _ _ _ _ (hn.mv (Mv.belowG hu)).1 (hs.mv (Mv.belowG hu)).1)
  clear hx hn hv
  obtain ⟨Ln, hLn⟩ : ∃ L, n.length = L := ⟨_, rfl⟩
  obtain ⟨Lv, hLv⟩ : ∃ L, v.length = L := ⟨_, rfl⟩
  obtain ⟨N, hN⟩ : ∃ N, ys.length = N := ⟨_, rfl⟩
  rw [hLn] at HS HLe HNV ⊢
  rw [hLv] at HNV ⊢
  rw [hN] at hl h64 hc hlm ⊢
  have HN := (show Hid (ys.length = N) from hN)
  clear hLn hLv hN
  go_enter Tryz.func67, Tryz.ntmps67
  go_wp2_with fail
  go_loopw [7, 8, 14] (fun o p i wr => ∃ (q : Nat) (put : Bool) (zs : List PEnt), q ≤ N ∧ i = .int .i64 q ∧ p = .bool put ∧ zs.length ≤ 2 * q ∧ LB (RSG GG w00) 82 2 w.heap.size wr o zs ∧ Below w.heap.size w wr ∧ Hid (wiF n v false ys = zs ++ wiF n v put (ys.drop q))) (fun _ _ i _ => N - (intOf i).toNat)
  case atStart => exact ⟨0, false, [], by omega, rfl, rfl, by simp, LB.fresh _ _ _ _ _ (Nat.le_refl _), below_alloc w _, rfl⟩
  case round =>
    obtain ⟨q, put, zs, hq, rfl, rfl, hzl, hLB, hB, hI⟩ := hrel
    by_cases hql : q < N
    · obtain ⟨x, hx⟩ : ∃ x, ys[q]? = some x := ⟨_, List.getElem?_eq_getElem (by have := HN.out; omega)⟩
      obtain ⟨r, _, hrng, s1, s2, rfl, t1, t2⟩ := HX.out q x hx
      have hrng := rangeAt_block hrng (hB.block bb hbb)
      obtain ⟨a1, c1, rfl, hc1⟩ := t1.form
      obtain ⟨a2, c2, rfl, hc2⟩ := t2.form
      have hrow0 := Row.new wr 82 [.slice none 0 0, .slice none 0 0]
      have HD := (show Hid (ys.drop q = x :: ys.drop (q + 1)) from drop_cons hx)
      clear hx
      have HXE := (show Hid (REnt GG w00 [.slice a1 x.1.length c1, .slice a2 x.2.length c2] x) from ⟨_, _, rfl, t1, t2⟩)
      have HXV := (show Hid (REnt GG w00 [.slice a1 x.1.length c1, .slice av Lv cv] (x.1, v)) by obtain ⟨p1, p2, e, _, q2⟩ := HNV.out; simp only [List.cons.injEq, and_true] at e; obtain ⟨rfl, rfl⟩ := e; exact ⟨_, _, rfl, t1, q2⟩)
      have HT1 := (show Hid (RT GG w00 (.slice a1 x.1.length c1) x.1) from t1)
      have hone := onE2 t1.one t2.one
      clear t1 t2
      obtain ⟨L1, hL1⟩ : ∃ L, x.1.length = L := ⟨_, rfl⟩
      obtain ⟨L2, hL2⟩ : ∃ L, x.2.length = L := ⟨_, rfl⟩
      rw [hL1] at hrng hone HXE HXV HT1
      rw [hL2] at hrng hone HXE
      clear hL1 hL2
      go_upto_region 6 with (first
        | (refine wpList_load_mid rfl _ _ rfl bb (off + q * 2) rfl [.slice a1 L1 c1, .slice a2 L2 c2] _ hrng Tryz.underlying82 rfl (by kernel_rfl) ?_)
        | (refine wl_store rfl _ _ _ rfl wr.heap.size [.slice a1 L1 c1, .slice a2 L2 c2] rfl rfl _ _ hrow0 rfl (by kernel_rfl) hone ?_; intro w5 hr5 hg5))
      have hb5 : Below wr.heap.size wr w5 := (below_alloc wr _).trans (grown_below hg5 (by simp) (fun k hk => by cases hk; exact Nat.le_refl _))
      have B5 : Below w.heap.size w w5 := below_and hB (Nat.le_refl _) hb5
      have hr5 := hr5.out
      have hLB5 := hLB.below (mov_rsG w00) hb5
      have hlt5 : ∀ g, u7.ownBlock = some g → g < wr.heap.size := hLB.lt
      have hs5 : wr.heap.size < w5.heap.size := by
        obtain ⟨hlt, _⟩ := Array.getElem?_eq_some_iff.1 hr5
        exact hlt
      have HS5 := fun u (hu : Below w.heap.size w u) => HS.out u _ x.1 (below_and h00 (Nat.le_refl _) hu) HT1.out
      have HL5 := HLe.out w5 _ x.1 (below_and h00 (Nat.le_refl _) B5) HT1.out
      clear hg5 hrow0 hrng hone hb5 hLB
      have e0 := hr5.cell (j := 0) rfl
      cases put with
      | false =>
        by_cases hlt : cmpL n x.1 < 0
        · rw [decide_eq_true hlt] at HL5
          go_upto_region 9 with (first
            | (go_at_call 76; refine HL5.mono ?_; rintro e w5 ⟨rfl, rfl⟩)
            | (at_builtin; refine wl_push (mov_rsG w00) rfl _ _ _ rfl 82 2 48 _ Tryz.underlying22 Tryz.infE rfl (by decide) w.heap.size u7 zs rfl hLB5 [.slice an Ln cn, .slice av Lv cv] (n, v) w5.heap.size (RSG.of HNV.out _ _) rfl (one_EG HNV.out) B5.size (fun g hg => Nat.lt_trans (hlt5 g hg) hs5) rfl B5.size (by omega) (by decide) ?_; intro v6 w6 hLB6 hg6))
          have B6 : Below w.heap.size w w6 := B5.trans (grown_below hg6 B5.size (fun k hk => hLB5.fr k hk))
          have hr6 := hr5.grown hg6 (fun e => by have := hlt5 _ e; omega)
          have e6 := hr6.cell (j := 0) rfl
          have HS6 := HS5 w6 B6
          rw [decide_eq_false (fun e => cmp_lt_ne hlt e.symm)] at HS6
          go_wp2_with (first
            | (go_at_call 40; refine HS6.mono ?_; rintro e w6 ⟨rfl, rfl⟩)
            | (refine wl_load rfl _ _ rfl wr.heap.size rfl _ _ hr6 _ Tryz.underlying82 rfl (by kernel_rfl) ?_)
            | (at_builtin; refine wl_push (mov_rsG w00) rfl _ _ _ rfl 82 2 48 _ Tryz.underlying22 Tryz.infE rfl (by decide) w.heap.size v6 (zs ++ [(n, v)]) rfl hLB6 [.slice a1 L1 c1, .slice a2 L2 c2] x w6.heap.size (RSG.of HXE.out _ _) rfl (one_EG HXE.out) B6.size hLB6.lt rfl B6.size (by rw [List.length_append]; simp only [List.length_cons, List.length_nil]; omega) (by decide) ?_; intro v8 w8 hLB8 hg8))
          have B8 : Below w.heap.size w w8 := B6.trans (grown_below hg8 B6.size (fun k hk => hLB6.fr k hk))
          go_roundw
          case rel => exact ⟨q + 1, true, (zs ++ [(n, v)]) ++ [x], by omega, by go_num, rfl, by simp only [List.length_append, List.length_cons, List.length_nil]; omega, hLB8, B8, by
            show _ = _
            rw [hI.out, HD.out, wiF, if_pos ⟨rfl, hlt⟩, if_neg (fun e => cmp_lt_ne hlt e.symm), decide_eq_true hlt]
            simp⟩
          case measure => simp [intOf]; omega
        rw [decide_eq_false hlt] at HL5
        have HLT := (show Hid (¬ cmpL n x.1 < 0) from hlt)
        by_cases heq : x.1 = n
        · skip
          have HS6 := HS5 w5 B5
          rw [decide_eq_true heq] at HS6
          go_wp2_with (first
            | (go_at_call 76; refine HL5.mono ?_; rintro e w5 ⟨rfl, rfl⟩)
            | (go_at_call 40; refine HS6.mono ?_; rintro e w5 ⟨rfl, rfl⟩)
            | (refine wl_set rfl _ _ _ rfl wr.heap.size 1 _ rfl rfl _ _ hr5 (show 1 < 2 by decide) (by kernel_rfl) rfl ?_; intro w6 hr6 hg6; have hLB6 := hLB5.grownSG hg6 (fun e => Nat.lt_irrefl _ (hlt5 _ e)); have B6 : Below w.heap.size w w6 := B5.trans (grown_below hg6 B5.size (fun k hk => by cases hk; exact hB.size)); have s6 : wr.heap.size < w6.heap.size := Nat.lt_of_lt_of_le hs5 hg6.size)
            | (refine wl_load rfl _ _ rfl wr.heap.size rfl _ _ hr6.out _ Tryz.underlying82 rfl (by kernel_rfl) ?_)
            | (at_builtin; refine wl_push (mov_rsG w00) rfl _ _ _ rfl 82 2 48 _ Tryz.underlying22 Tryz.infE rfl (by decide) w.heap.size u7 zs rfl hLB6 [.slice a1 L1 c1, .slice av Lv cv] (x.1, v) w6.heap.size (RSG.of HXV.out _ _) rfl (one_EG HXV.out) B6.size (fun g hg => Nat.lt_trans (hlt5 g hg) s6) rfl B6.size (by omega) (by decide) ?_; intro v8 w8 hLB8 hg8))
          have B8 : Below w.heap.size w w8 := B6.trans (grown_below hg8 B6.size (fun k hk => hLB6.fr k hk))
          go_roundw
          case rel => exact ⟨q + 1, true, zs ++ [(x.1, v)], by omega, by go_num, rfl, by simp only [List.length_append, List.length_cons, List.length_nil]; omega, hLB8, B8, by
            show _ = _
            rw [hI.out, HD.out, wiF, if_neg (fun h => absurd h.2 (by have := HLT.out; omega)), if_pos heq, decide_eq_false (p := cmpL n x.1 < 0) (by have := HLT.out; omega), decide_eq_true heq]
            simp⟩
          case measure => simp [intOf]; omega
        · skip
          have HS6 := HS5 w5 B5
          rw [decide_eq_false heq] at HS6
          go_wp2_with (first
            | (go_at_call 76; refine HL5.mono ?_; rintro e w5 ⟨rfl, rfl⟩)
            | (go_at_call 40; refine HS6.mono ?_; rintro e w5 ⟨rfl, rfl⟩)
            | (refine wl_load rfl _ _ rfl wr.heap.size rfl _ _ hr5 _ Tryz.underlying82 rfl (by kernel_rfl) ?_)
            | (at_builtin; refine wl_push (mov_rsG w00) rfl _ _ _ rfl 82 2 48 _ Tryz.underlying22 Tryz.infE rfl (by decide) w.heap.size u7 zs rfl hLB5 [.slice a1 L1 c1, .slice a2 L2 c2] x w5.heap.size (RSG.of HXE.out _ _) rfl (one_EG HXE.out) B5.size (fun g hg => Nat.lt_trans (hlt5 g hg) hs5) rfl B5.size (by omega) (by decide) ?_; intro v8 w8 hLB8 hg8))
          have B8 : Below w.heap.size w w8 := B5.trans (grown_below hg8 B5.size (fun k hk => hLB5.fr k hk))
          go_roundw
          case rel => exact ⟨q + 1, false, zs ++ [x], by omega, by go_num, rfl, by simp only [List.length_append, List.length_cons, List.length_nil]; omega, hLB8, B8, by
            show _ = _
            rw [hI.out, HD.out, wiF, if_neg (fun h => absurd h.2 (by have := HLT.out; omega)), if_neg heq, decide_eq_false (p := cmpL n x.1 < 0) (by have := HLT.out; omega), decide_eq_false heq]
            simp⟩
          case measure => simp [intOf]; omega
      | true =>
        by_cases heq : x.1 = n
        · skip
          have HS6 := HS5 w5 B5
          rw [decide_eq_true heq] at HS6
          go_wp2_with (first
            | (go_at_call 40; refine HS6.mono ?_; rintro e w5 ⟨rfl, rfl⟩)
            | (refine wl_set rfl _ _ _ rfl wr.heap.size 1 _ rfl rfl _ _ hr5 (show 1 < 2 by decide) (by kernel_rfl) rfl ?_; intro w6 hr6 hg6; have hLB6 := hLB5.grownSG hg6 (fun e => Nat.lt_irrefl _ (hlt5 _ e)); have B6 : Below w.heap.size w w6 := B5.trans (grown_below hg6 B5.size (fun k hk => by cases hk; exact hB.size)); have s6 : wr.heap.size < w6.heap.size := Nat.lt_of_lt_of_le hs5 hg6.size)
            | (refine wl_load rfl _ _ rfl wr.heap.size rfl _ _ hr6.out _ Tryz.underlying82 rfl (by kernel_rfl) ?_)
            | (at_builtin; refine wl_push (mov_rsG w00) rfl _ _ _ rfl 82 2 48 _ Tryz.underlying22 Tryz.infE rfl (by decide) w.heap.size u7 zs rfl hLB6 [.slice a1 L1 c1, .slice av Lv cv] (x.1, v) w6.heap.size (RSG.of HXV.out _ _) rfl (one_EG HXV.out) B6.size (fun g hg => Nat.lt_trans (hlt5 g hg) s6) rfl B6.size (by omega) (by decide) ?_; intro v8 w8 hLB8 hg8))
          have B8 : Below w.heap.size w w8 := B6.trans (grown_below hg8 B6.size (fun k hk => hLB6.fr k hk))
          go_roundw
          case rel => exact ⟨q + 1, true, zs ++ [(x.1, v)], by omega, by go_num, rfl, by simp only [List.length_append, List.length_cons, List.length_nil]; omega, hLB8, B8, by
            show _ = _
            rw [hI.out, HD.out, wiF, if_neg (by simp), if_pos heq]
            simp⟩
          case measure => simp [intOf]; omega
        · skip
          have HS6 := HS5 w5 B5
          rw [decide_eq_false heq] at HS6
          go_wp2_with (first
            | (go_at_call 40; refine HS6.mono ?_; rintro e w5 ⟨rfl, rfl⟩)
            | (refine wl_load rfl _ _ rfl wr.heap.size rfl _ _ hr5 _ Tryz.underlying82 rfl (by kernel_rfl) ?_)
            | (at_builtin; refine wl_push (mov_rsG w00) rfl _ _ _ rfl 82 2 48 _ Tryz.underlying22 Tryz.infE rfl (by decide) w.heap.size u7 zs rfl hLB5 [.slice a1 L1 c1, .slice a2 L2 c2] x w5.heap.size (RSG.of HXE.out _ _) rfl (one_EG HXE.out) B5.size (fun g hg => Nat.lt_trans (hlt5 g hg) hs5) rfl B5.size (by omega) (by decide) ?_; intro v8 w8 hLB8 hg8))
          have B8 : Below w.heap.size w w8 := B5.trans (grown_below hg8 B5.size (fun k hk => hLB5.fr k hk))
          go_roundw
          case rel => exact ⟨q + 1, true, zs ++ [x], by omega, by go_num, rfl, by simp only [List.length_append, List.length_cons, List.length_nil]; omega, hLB8, B8, by
            show _ = _
            rw [hI.out, HD.out, wiF, if_neg (by simp), if_neg heq]
            simp⟩
          case measure => simp [intOf]; omega
    · have hLBr := hLB
      have he : ys.drop q = [] := List.drop_of_length_le (by have := HN.out; omega)
      cases put with
      | true =>
        go_wp2_with fail
        go_ret
        refine ⟨_, rfl, ?_, hB⟩
        rw [hI.out, he, wiF, if_pos rfl, List.append_nil]
        exact hLB
      | false =>
        go_wp2_with (at_builtin; refine wl_push (mov_rsG w00) rfl _ _ _ rfl 82 2 48 _ Tryz.underlying22 Tryz.infE rfl (by decide) w.heap.size u7 zs rfl hLB [.slice an Ln cn, .slice av Lv cv] (n, v) wr.heap.size (RSG.of HNV.out _ _) rfl (one_EG HNV.out) hB.size hLB.lt rfl hB.size (by omega) (by decide) ?_; intro v8 w8 hLB8 hg8)
        have B8 : Below w.heap.size w w8 := hB.trans (grown_below hg8 hB.size (fun k hk => hLBr.fr k hk))
        go_ret
        refine ⟨_, rfl, ?_, B8⟩
        rw [hI.out, he, wiF, if_neg (by simp)]
        exact hLB8

set_option maxRecDepth 10000 in
set_option maxHeartbeats 2000000 in
theorem refWithG_none {GG : Nat → Prop} (w00 w : World) (h00 : Below w00.heap.size w00 w) (ao : Option Addr) (c : Nat) (nv vv : Value) (n v : List Int) (hn : RT GG w00 nv n) (hv : RT GG w00 vv v) :
    Calls Tryz.prog 67 #[.slice ao 0 c, nv, vv] w fun e w' => ∃ v', e = .returned v' ∧ LB (RSG GG w00) 82 2 w.heap.size w' v' (wiF n v false []) ∧ Below w.heap.size w w' := by
  obtain ⟨an, cn, rfl, hcn⟩ := hn.form
  obtain ⟨av, cv, rfl, hcv⟩ := hv.form
  have HNV := (show Hid (REnt GG w00 [.slice an n.length cn, .slice av v.length cv] (n, v)) from ⟨_, _, rfl, hn, hv⟩)
  have hB := below_alloc w (.cells #[] 82)
  have hLB : LB (RSG GG w00) 82 2 w.heap.size (w.alloc (.cells #[] 82)) (.slice (some ⟨w.heap.size, 0, none⟩) 0 0) [] := LB.fresh _ _ _ _ _ (Nat.le_refl _)
  clear hn hv
  generalize n.length = Ln at *
  generalize v.length = Lv at *
  go_enter Tryz.func67, Tryz.ntmps67
  go_wp2_with fail
  obtain ⟨w1, hw1⟩ : ∃ w1, w1 = w.alloc (.cells #[] 82) := ⟨_, rfl⟩
  rw [← hw1] at hB hLB ⊢
  clear hw1
  refine wp_loop_rounds 1 ?_; rw [rounds_succ]
  go_wp2_with (at_builtin; refine wl_push (mov_rsG w00) rfl _ _ _ rfl 82 2 48 _ Tryz.underlying22 Tryz.infE rfl (by decide) w.heap.size (.slice (some ⟨w.heap.size, 0, none⟩) 0 0) [] rfl hLB [.slice an Ln cn, .slice av Lv cv] (n, v) w1.heap.size (RSG.of HNV.out _ _) rfl (one_EG HNV.out) hB.size hLB.lt rfl hB.size (by decide) (by decide) ?_; intro v8 w8 hLB8 hg8)
  have B8 : Below w.heap.size w w8 := hB.trans (grown_below hg8 hB.size (fun k hk => hLB.fr k hk))
  go_ret
  refine ⟨_, rfl, ?_, B8⟩
  rw [wiF, if_neg (by simp)]
  exact hLB8
/-- The document's With. -/
theorem refWithG_any {GG : Nat → Prop} (w00 w : World) (h00 : Below w00.heap.size w00 w) (ev : Value) (ys : List PEnt) (h : RL REnt 2 GG w00 ev ys) (h64 : ys.length ≤ 64) (nv vv : Value) (n v : List Int) (hn : RT GG w00 nv n) (hv : RT GG w00 vv v) :
    Calls Tryz.prog 67 #[ev, nv, vv] w fun e w' => ∃ v', e = .returned v' ∧ LB (RSG GG w00) 82 2 w.heap.size w' v' (wiF n v false ys) ∧ Below w.heap.size w w' := by
  by_cases hl : 0 < ys.length
  · obtain ⟨b1, o1, c1, rfl, hc1, hm1, _, hb1, hx1⟩ := h.at hl
    exact refWithG_some w00 w h00 b1 o1 c1 ys hl h64 hc1 hm1 (Nat.lt_of_lt_of_le hb1 h00.size) (fun i a ha => by obtain ⟨r, e1, e2, e3⟩ := hx1 i a ha; exact ⟨r, e1, rangeAt_block e2 (h00.block _ hb1), e3⟩) nv vv n v hn hv
  · obtain rfl : ys = [] := List.eq_nil_of_length_eq_zero (by omega)
    obtain ⟨ao, c, rfl, _⟩ := h.form
    exact refWithG_none w00 w h00 ao c nv vv n v hn hv
end Go.Proofs.YtejkkhlblnepeaaGreat
end

section
set_option linter.unusedVariables false
set_option linter.unusedSimpArgs false
namespace Go.Proofs.YtejkkhlblnepeaaGreat
open Go.RowKit Oct Kvl

theorem flat_invG {k : Nat} : ∀ {rows : List (List Value)} {j : Nat} {v : Value}, (∀ r ∈ rows, r.length = k) → rows.flatten[j]? = some v → ∃ i r j', j = i * k + j' ∧ rows[i]? = some r ∧ r[j']? = some v
  | [], j, v, _, h => by simp at h
  | x :: rows, j, v, hk, h => by
    have hx := hk x (by simp)
    rw [List.flatten_cons] at h
    rcases Nat.lt_or_ge j x.length with hj | hj
    · rw [List.getElem?_append_left hj] at h
      exact ⟨0, x, j, by omega, rfl, h⟩
    · rw [List.getElem?_append_right hj] at h
      obtain ⟨i, r, j', e, h1, h2⟩ := flat_invG (rows := rows) (fun y hy => hk y (by simp [hy])) h
      refine ⟨i + 1, r, j', ?_, by simpa using h1, h2⟩
      rw [Nat.add_mul]
      omega
theorem owns_upG {w : World} {B : Nat} {e : TypeId} {k : Nat} {v : Value} {n : Nat} {xs : List Value} (h : w.ownsRow 0 e k v n xs) (hf : Fr B v) : w.ownsRow B e k v n xs :=
  ⟨h.1, by
    rcases h.2 with h | ⟨g, cap, cur, rfl, _, r⟩
    · exact .inl h
    · exact .inr ⟨g, cap, cur, rfl, hf g rfl, r⟩⟩
theorem owns_dnG {w : World} {B : Nat} {e : TypeId} {k : Nat} {v : Value} {n : Nat} {xs : List Value} (h : w.ownsRow B e k v n xs) : w.ownsRow 0 e k v n xs ∧ Fr B v :=
  ⟨⟨h.1, by
    rcases h.2 with h | ⟨g, cap, cur, h1, _, r⟩
    · exact .inl h
    · exact .inr ⟨g, cap, cur, h1, Nat.zero_le _, r⟩⟩, fun k hk => (h.lt k hk).1⟩
/-- Entries of another slice are put behind those of the call's own. -/
theorem wl_addNG {GG : Nat → Prop} {w0 w : World} {B : Nat} {ops : Array Oper} {rest : List Oper} {o : Oper} {a : Act} {Q : Exit → Act → World → Prop} (hgd : o.guard = none) (s x : Operand)
    (ho : o.op = .call { callee := .builtin .append, args := #[s, x], argTypes := #[22, 22] }) (v : Value) (zs : List PEnt) (hs : a.eval s = v) (hL : LB (RSG GG w0) 82 2 B w v zs) (hB : B ≤ w.heap.size)
    (b off m c : Nat) (src : List (List Value)) (us : List PEnt) (hx : a.eval x = .slice (some ⟨b, off, none⟩) m c) (hm : src.length = m) (h2 : ∀ r ∈ src, r.length = 2) (hc : ∀ (i : Nat) (r : List Value), src[i]? = some r → w.rangeAt b (off + i * 2) r)
    (hA : All2 (RSG GG w0 Any w0) src us) (hb : zs.length + m ≤ 1000)
    (h : ∀ v' w', LB (RSG GG w0) 82 2 B w' v' (zs ++ us) → w.grownBy w' v.ownBlock → wpList Tryz.prog ops Q rest (a.put o.dst v') w') : wpList Tryz.prog ops Q (o :: rest) a w := by
  obtain ⟨i0, hi, hz0, hz1, hz2⟩ := info_parts Tryz.infE
  obtain ⟨rows, h0, hown, hfr, hall⟩ := hL
  have hlen := hall.len
  have h1 : ∀ u ∈ src.flatten, u.oneCell' = true := by
    intro u hu
    obtain ⟨q, hq, huq⟩ := List.mem_flatten.1 hu
    obtain ⟨k, hk, rfl⟩ := List.getElem_of_mem hq
    have := hA.get (List.getElem?_eq_getElem hk) (List.getElem?_eq_getElem (by rw [← hA.len]; exact hk))
    exact one_RE (this w0 (Below.refl _ _)) u huq
  refine wpList_append_own w hgd s x _ ho B 82 i0 _ 2 48 Tryz.underlying22 hi hz0 hz1 hz2 rfl (by decide) v rows.length rows.flatten hs (owns_upG hown hfr) ⟨b, off, none⟩ m c src.flatten hx (by rw [flat_len h2, hm])
    (fun j u hj => by
      obtain ⟨i, r, j', e, g1, g2⟩ := flat_invG h2 hj
      rw [Addr.add_mid, e, ← Nat.add_assoc]
      exact hc i r g1 j' u g2) h1 (by unfold maxLen; omega) (by omega) hB ?_
  intro v' w' hown' hgr _
  obtain ⟨o1, o2⟩ := owns_dnG hown'
  refine h v' w' ⟨rows ++ src, fun r hr => ?_, ?_, o2, All2.app (hall.mono fun _ _ h => h) (hA.mono fun _ _ h => h)⟩ hgr
  · rcases List.mem_append.1 hr with hr | hr
    · exact h0 r hr
    · exact h2 r hr
  · rw [List.length_append, List.flatten_append, hm]
    exact o1

/-- The end of the document's Do. -/
def RqG (GG : Nat → Prop) (w : World) (x : List PEnt × Int × List Int) (e : Ending) (w' : World) : Prop :=
  ∃ v' vv, e = .returned (.tuple #[v', .agg #[.int .i64 x.2.1, vv]]) ∧ RL REnt 2 GG w' v' x.1 ∧ RT GG w' vv x.2.2 ∧ Below w.heap.size w w'
theorem fI_getG {n : List Int} {l : List PEnt} (h : rgtL l) : fI n l = if getR n l = none then -1 else (pos n l : Int) := by
  have := fst_pos (n := n) h.2.1
  split
  · rename_i hg
    rw [if_pos hg] at this
    exact fI_none this
  · rename_i hg
    rw [if_neg hg] at this
    exact fI_some this

set_option maxRecDepth 10000 in
set_option maxHeartbeats 8000000 in
/-- The document's Do. -/
theorem refDoG_any {GG : Nat → Prop} (w : World) (hGG : ∀ k, w.heap.size ≤ k → GG k) (v : Value) (ys : List PEnt) (h : RL REnt 2 GG w v ys) (r : List Value) (o : POp) (ho : ROp GG w r o) :
    Calls Tryz.prog 28 #[v, .agg r.toArray] w (RqG GG w (doL ys o)) := by
  have le := Nat.le_refl w.heap.size
  have hall := ho
  obtain ⟨ao, cap, rfl, hcap⟩ := h.form
  obtain ⟨k, on, oa, ob, u⟩ := o
  obtain ⟨vn, va, vb, rfl, rn, ra', rb'⟩ := ho
  simp only at rn ra' rb'
  obtain ⟨an, cn, rfl, hcn⟩ := rn.form
  obtain ⟨aa, ca, rfl, hca⟩ := ra'.form
  obtain ⟨ab, cb, rfl, hcb⟩ := rb'.form
  obtain ⟨w0, hw0⟩ : ∃ w0, w0 = (w.alloc (.cells #[.int .i64 k, .slice an on.length cn, .slice aa oa.length ca, .slice ab ob.length cb, .int .i64 u] 56)).alloc (.cells #[.int .i64 0, .slice none 0 0] 34) := ⟨_, rfl⟩
  have x0 : Row w0 w.heap.size 56 [.int .i64 k, .slice an on.length cn, .slice aa oa.length ca, .slice ab ob.length cb, .int .i64 u] := by rw [hw0]; exact rowA (Row.new w 56 _) _
  have r0 : Row w0 (w.heap.size + 1) 34 [.int .i64 0, .slice none 0 0] := by
    rw [hw0]
    have := Row.new (w.alloc (.cells #[.int .i64 k, .slice an on.length cn, .slice aa oa.length ca, .slice ab ob.length cb, .int .i64 u] 56)) 34 [.int .i64 0, .slice none 0 0]
    simpa using this
  have B0 : Below w.heap.size w w0 := by rw [hw0]; exact below_and (below_alloc _ _) le (below_alloc _ _)
  have hs0 : w.heap.size + 2 ≤ w0.heap.size := by rw [hw0]; simp
  have HE := (show Hid (∀ z, Below w.heap.size w z → RL REnt 2 GG z (.slice ao ys.length cap) ys) from fun z hu => h.mv mov_ent hu.size (Mv.belowG hu))
  have HA0 := (show Hid (∀ z, Below w.heap.size w z → RL REnt 2 Any z (.slice ao ys.length cap) ys) from fun z hu => (HE.out z hu).mv mov_ent (Nat.le_refl _) Mv.any)
  have HGG := (show Hid (∀ k, w.heap.size ≤ k → GG k) from hGG)
  have HO := (show Hid (∀ z, Below w.heap.size w z → ROp Any z [.int .i64 k, .slice an on.length cn, .slice aa oa.length ca, .slice ab ob.length cb, .int .i64 u] (k, on, oa, ob, u)) from fun z hu => mov_op _ _ _ _ _ _ (mov_op _ _ _ _ _ _ hall hu.size (Mv.belowG hu)) (Nat.le_refl _) Mv.any)
  have HT := (show Hid (RT GG w (.slice an on.length cn) on ∧ RT GG w (.slice aa oa.length ca) oa ∧ RT GG w (.slice ab ob.length cb) ob) from ⟨rn, ra', rb'⟩)
  have HV := (show Hid (RL REnt 2 GG w (.slice ao ys.length cap) ys) from h)
  have FB := (show Hid (∀ {wa wb : World} (c : Int) (vv : Value) (l : List Int), doL ys (k, on, oa, ob, u) = (ys, c, l) → RT GG w vv l → Below w.heap.size w wa → wa.grownBy wb (some (w.heap.size + 1)) → RqG GG w (doL ys (k, on, oa, ob, u)) (.returned (.tuple #[.slice ao ys.length cap, .agg #[.int .i64 c, vv]])) wb) from fun {wa wb} c vv l hd hv hb hg => by
    have hB := hb.trans (grown_below hg hb.size (fun j hj => by cases hj; omega))
    exact ⟨_, vv, by rw [hd], by rw [hd]; exact HE.out wb hB, by rw [hd]; exact hv.mv (Mv.belowG hB), hB⟩)
  have FL := (show Hid (∀ {wa wb : World} (vx : Value) (zs : List PEnt) (B : Nat), doL ys (k, on, oa, ob, u) = (zs, 0, []) → LB (RSG GG w) 82 2 B wa vx zs → w.heap.size + 2 ≤ B → Below w.heap.size w wa → wa.grownBy wb (some (w.heap.size + 1)) → RqG GG w (doL ys (k, on, oa, ob, u)) (.returned (.tuple #[vx, .agg #[.int .i64 0, .slice none 0 0]])) wb) from fun {wa wb} vx zs B hd hL h2 hb hg => by
    have hB := hb.trans (grown_below hg hb.size (fun j hj => by cases hj; omega))
    have hL' := hL.grownSG hg (fun e => by have := hL.fr _ e; omega)
    exact ⟨vx, _, by rw [hd], by rw [hd]; exact hL'.rsG hB (fun k hk => HGG.out k (by omega)), by rw [hd]; exact RT.nil GG wb, hB⟩)
  have hR := refRight_any w0 _ ys (HA0.out w0 B0)
  clear hall rn ra' rb' hcn hca hcb h
  go_enter Tryz.func28, Tryz.ntmps28
  go_upto_region 1 with fail
  rw [← hw0]
  clear hw0
  by_cases hr : rgtL ys
  rotate_left
  · rw [decide_eq_false hr] at hR
    have hd := (show Hid (_ = _) from do_bad (l := ys) (o := (k, on, oa, ob, u)) (fun h => hr h.1))
    go_wp2_with (first
      | (go_at_call 36; refine hR.mono ?_; rintro e w1 ⟨rfl, hb1⟩; have r1 := r0.below hb1)
      | (refine wl_store rfl _ _ _ rfl (w.heap.size + 1) [.int .i64 5, .slice none 0 0] rfl rfl _ _ r1 rfl (by kernel_rfl) (one_res rfl) ?_; intro w9 hr9 hg9))
    refine bodyPost_ret (results_tc rfl _ _ (w.heap.size + 1) _ _ (0, 0) _ (by rfl) hr9.out Tryz.underlying34 rfl (by kernel_rfl)) rfl ?_
    exact FB.out 5 _ [] hd.out (RT.nil _ _) (below_and B0 le hb1) hg9
  rw [decide_eq_true hr] at hR
  have HP := (show Hid (∀ z, Below w.heap.size w z → Calls Tryz.prog 65 #[.agg #[.int .i64 k, .slice an on.length cn, .slice aa oa.length ca, .slice ab ob.length cb, .int .i64 u]] z fun e w' => e = .returned (.bool (decide (wok (k, on, oa, ob, u)))) ∧ Below z.heap.size z w') from fun z hz => rightOp_any z _ _ (HO.out z hz))
  by_cases hw : wok (k, on, oa, ob, u)
  rotate_left
  · rw [decide_eq_false hw] at HP
    have hd := (show Hid (_ = _) from do_bad (l := ys) (o := (k, on, oa, ob, u)) (fun h => hw h.2.1))
    go_wp2_with (first
      | (go_at_call 36; refine hR.mono ?_; rintro e w1 ⟨rfl, hb1⟩; have x1 := x0.below hb1; have B1 := below_and B0 le hb1)
      | (refine wl_load_w (by rfl) _ _ rfl w.heap.size rfl _ _ x1 _ Tryz.underlying56 rfl (by kernel_rfl) ?_)
      | (go_at_call 65; refine (HP.out w1 B1).mono ?_; rintro e w2 ⟨rfl, hb2⟩; have r2 := (r0.below hb1).below hb2)
      | (refine wl_store rfl _ _ _ rfl (w.heap.size + 1) [.int .i64 5, .slice none 0 0] rfl rfl _ _ r2 rfl (by kernel_rfl) (one_res rfl) ?_; intro w9 hr9 hg9))
    refine bodyPost_ret (results_tc rfl _ _ (w.heap.size + 1) _ _ (0, 0) _ (by rfl) hr9.out Tryz.underlying34 rfl (by kernel_rfl)) rfl ?_
    exact FB.out 5 _ [] hd.out (RT.nil _ _) (below_and B1 le hb2) hg9
  rw [decide_eq_true hw] at HP
  by_cases hk : k ≤ 4
  rotate_left
  · have hd := (show Hid (_ = _) from do_bad (l := ys) (o := (k, on, oa, ob, u)) (fun h => hk h.2.2))
    have hk' : 4 < k := by omega
    go_wp2_with (first
      | (go_at_call 36; refine hR.mono ?_; rintro e w1 ⟨rfl, hb1⟩; have x1 := x0.below hb1; have B1 := below_and B0 le hb1)
      | (refine wl_load_w (by rfl) _ _ rfl w.heap.size rfl _ _ x1 _ Tryz.underlying56 rfl (by kernel_rfl) ?_)
      | (go_at_call 65; refine (HP.out w1 B1).mono ?_; rintro e w2 ⟨rfl, hb2⟩; have r2 := (r0.below hb1).below hb2; have c2 := (x1.below hb2).cell (j := 0) rfl)
      | (refine wl_store rfl _ _ _ rfl (w.heap.size + 1) [.int .i64 5, .slice none 0 0] rfl rfl _ _ r2 rfl (by kernel_rfl) (one_res rfl) ?_; intro w9 hr9 hg9))
    refine bodyPost_ret (results_tc rfl _ _ (w.heap.size + 1) _ _ (0, 0) _ (by rfl) hr9.out Tryz.underlying34 rfl (by kernel_rfl)) rfl ?_
    exact FB.out 5 _ [] hd.out (RT.nil _ _) (below_and B1 le hb2) hg9
  have hk' : decide (4 < k) = false := by simp; omega
  have hd := (show Hid (doL ys (k, on, oa, ob, u) = doR ys (k, on, oa, ob, u)) from do_yes (l := ys) (o := (k, on, oa, ob, u)) hr hw hk)
  go_upto_region 3 with (first
    | (go_at_call 36; refine hR.mono ?_; rintro e w1 ⟨rfl, hb1⟩; have x1 := x0.below hb1; have B1 := below_and B0 le hb1)
    | (refine wl_load_w (by rfl) _ _ rfl w.heap.size rfl _ _ x1 _ Tryz.underlying56 rfl (by kernel_rfl) ?_)
    | (go_at_call 65; refine (HP.out w1 B1).mono ?_; rintro e w2 ⟨rfl, hb2⟩; have r2 := (r0.below hb1).below hb2; have c2 := (x1.below hb2).cell (j := 0) rfl))
  have x2 := x1.below hb2
  have B2 := below_and B1 le hb2
  have s2 : w.heap.size + 2 ≤ w2.heap.size := by have := hb1.size; have := hb2.size; omega
  clear hR HP r0 x0 x1 B0 B1 hb1 hb2 c2 hk' hs0
  have hF := refFind_any w2 _ ys (HA0.out w2 B2) _ on (HT.out.1.mv (Mv.belowG B2)).1
  rw [fI_getG hr] at hF
  have b1 := x2.cell (j := 1) rfl
  go_upto_region 4 with (go_at_call 66; refine hF.mono ?_; rintro e w3 ⟨rfl, hb3⟩)
  have x3 := x2.below hb3
  have r3 := r2.below hb3
  have B3 := below_and B2 le hb3
  have s3 : w.heap.size + 2 ≤ w3.heap.size := by have := hb3.size; omega
  have d0 := x3.cell (j := 0) rfl
  have d1 := x3.cell (j := 1) rfl
  have d2 := x3.cell (j := 2) rfl
  have d3 := x3.cell (j := 3) rfl
  clear hF b1 x2 r2 B2 s2 hb3
  have HRG := (show Hid (rgtL ys) from hr)
  have HD := hd
  have HK := (show Hid ((1 ≤ k) ∧ k ≤ 4) from ⟨hw.1.1, hk⟩)
  clear hr hw hk hd
  have HW1 := (show Hid (Calls Tryz.prog 67 #[.slice ao ys.length cap, .slice an on.length cn, .slice aa oa.length ca] w3 fun e w' => ∃ v', e = .returned v' ∧ LB (RSG GG w) 82 2 w3.heap.size w' v' (putR on oa ys) ∧ Below w3.heap.size w3 w') by
    have := refWithG_any w w3 B3 _ ys HV.out HRG.out.1 _ _ on oa HT.out.1 HT.out.2.1
    rw [wi_put HRG.out.2.1] at this
    exact this)
  cases hg : getR on ys with
  | none =>
    rw [if_pos rfl]
    have HG := (show Hid (getR on ys = none) from hg)
    clear hg
    by_cases k2 : k = 2
    rotate_left
    · have k2' : (k != 2) = true := by simp [k2]
      have HDD := (show Hid (doL ys (k, on, oa, ob, u) = (ys, 1, [])) by show _ = _; rw [HD.out]; unfold doR; simp only; rw [HG.out]; exact if_neg k2)
      clear k2
      go_wp2_with (first
        | (refine wl_store rfl _ _ _ rfl (w.heap.size + 1) [.int .i64 1, .slice none 0 0] rfl rfl _ _ r3 rfl (by kernel_rfl) (one_res rfl) ?_; intro w9 hr9 hg9))
      refine bodyPost_ret (results_tc rfl _ _ (w.heap.size + 1) _ _ (0, 0) _ (by rfl) hr9.out Tryz.underlying34 rfl (by kernel_rfl)) rfl ?_
      exact FB.out 1 _ [] HDD.out (RT.nil _ _) B3 hg9
    subst k2
    by_cases h64 : ys.length = 64
    · have HDD := (show Hid (doL ys (2, on, oa, ob, u) = (ys, 3, [])) by show _ = _; rw [HD.out]; unfold doR; simp only; rw [HG.out]; simp only [if_true]; exact if_pos (by omega))
      have h64' : ((ys.length : Int) == 64) = true := by simp [h64]
      clear h64
      go_wp2_with (first
        | (refine wl_store rfl _ _ _ rfl (w.heap.size + 1) [.int .i64 3, .slice none 0 0] rfl rfl _ _ r3 rfl (by kernel_rfl) (one_res rfl) ?_; intro w9 hr9 hg9))
      refine bodyPost_ret (results_tc rfl _ _ (w.heap.size + 1) _ _ (0, 0) _ (by rfl) hr9.out Tryz.underlying34 rfl (by kernel_rfl)) rfl ?_
      exact FB.out 3 _ [] HDD.out (RT.nil _ _) B3 hg9
    have HDD := (show Hid (doL ys (2, on, oa, ob, u) = (putR on oa ys, 0, [])) by show _ = _; rw [HD.out]; unfold doR; simp only; rw [HG.out]; simp only [if_true]; exact if_neg (by have := HRG.out.1; omega))
    have h64' : ((ys.length : Int) == 64) = false := by simp; omega
    clear h64
    go_wp2_with (first
      | (go_at_call 67; refine HW1.out.mono ?_; rintro e w4 ⟨v4, rfl, hL4, hb4⟩; have r4 := r3.below hb4)
      | (refine wl_store rfl _ _ _ rfl (w.heap.size + 1) [.int .i64 0, .slice none 0 0] rfl rfl _ _ r4 rfl (by kernel_rfl) (one_res rfl) ?_; intro w9 hr9 hg9))
    refine bodyPost_ret (results_tc rfl _ _ (w.heap.size + 1) _ _ (0, 0) _ (by rfl) hr9.out Tryz.underlying34 rfl (by kernel_rfl)) rfl ?_
    exact FL.out _ _ _ HDD.out hL4 s3 (below_and B3 le hb4) hg9
  | some uu =>
    rw [if_neg (by simp)]
    have HG := (show Hid (getR on ys = some uu) from hg)
    have hP := get_some hg
    clear hg
    obtain ⟨p, hp⟩ : ∃ p, p = pos on ys := ⟨_, rfl⟩
    have HDEL := (show Hid (delR on ys = ys.take p ++ ys.drop (p + 1)) by show _ = _; rw [hp]; exact del_old HG.out)
    rw [← hp] at hP ⊢
    clear hp
    have hpN : p < ys.length := (List.getElem?_eq_some_iff.1 hP).1
    obtain ⟨rows, ⟨hr2, hcase⟩, hA⟩ := HV.out
    have hlen := hA.len
    rcases hcase with ⟨ao', cap', _, e2, _⟩ | ⟨b, off, cap', hve, hcc, hmm, hpos, _, hbb, hcells⟩
    · rw [e2] at hlen; simp at hlen; omega
    injection hve with e1 e2 e3
    subst e1 e3
    clear e2
    rw [hlen] at hcc
    have hrp := List.getElem?_eq_getElem (l := rows) (i := p) (by omega)
    have hrng := hcells p _ hrp
    obtain ⟨s1, s2, hrr, t1, t2⟩ := hA.get hrp hP
    rw [hrr] at hrng
    simp only at t1 t2
    obtain ⟨a2, c2, rfl, hc2⟩ := t2.form
    have m1 : w3.cell? ⟨b, off + p * 2 + 1, none⟩ = some (.slice a2 uu.length c2) := (B3.cell (p := ⟨b, off + p * 2 + 1, none⟩) hbb).trans (hrng 1 _ rfl)
    have HSR := (show Hid ((∀ r ∈ rows, r.length = 2) ∧ (∀ (i : Nat) (r : List Value), rows[i]? = some r → w.rangeAt b (off + i * 2) r) ∧ All2 (REnt GG w) rows ys ∧ rows.length = ys.length) from ⟨hr2, hcells, hA, hlen⟩)
    have hp0 : decide ((p : Int) < 0) = false := by simp
    have HT2 := (show Hid (RT GG w (.slice a2 uu.length c2) uu) from t2)
    have h64 := HRG.out.1
    clear hrng t1 t2 hP hr2 hcells hA hlen hpos hrr hrp
    have q0 := r3.cell (j := 0) rfl
    have q1 := r3.cell (j := 1) rfl
    have z0 := r3.frozen 0
    have z1 := r3.frozen 1
    by_cases k1 : k = 1
    · subst k1
      have HDD := (show Hid (doL ys (1, on, oa, ob, u) = (ys, 0, uu)) by show _ = _; rw [HD.out]; unfold doR; simp only; rw [HG.out]; rfl)
      go_wp2_with fail
      go_region
      have hr9 := (r3.set 0 (.int .i64 0)).set 1 (.slice a2 uu.length c2)
      have hg9 := grown_to_drew (grown_trans (grown_set w3 (w.heap.size + 1) 0 (.int .i64 0)) (grown_set _ (w.heap.size + 1) 1 (.slice a2 uu.length c2)) (.inl rfl))
      go_wp2_with fail
      refine bodyPost_ret (results_tc rfl _ _ (w.heap.size + 1) _ _ (0, 0) _ (by rfl) hr9 Tryz.underlying34 rfl (by kernel_rfl)) rfl ?_
      exact FB.out 0 _ uu HDD.out HT2.out B3 hg9
    have k1' : (k == 1) = false := by simp [k1]
    by_cases k2 : k = 2
    · subst k2
      have HDD := (show Hid (doL ys (2, on, oa, ob, u) = (putR on oa ys, 0, [])) by show _ = _; rw [HD.out]; unfold doR; simp only; rw [HG.out]; rfl)
      clear q0 q1 z0 z1 m1 k1 k1'
      go_wp2_with (first
        | (go_at_call 67; refine HW1.out.mono ?_; rintro e w4 ⟨v4, rfl, hL4, hb4⟩; have r4 := r3.below hb4)
        | (refine wl_store rfl _ _ _ rfl (w.heap.size + 1) [.int .i64 0, .slice none 0 0] rfl rfl _ _ r4 rfl (by kernel_rfl) (one_res rfl) ?_; intro w9 hr9 hg9))
      refine bodyPost_ret (results_tc rfl _ _ (w.heap.size + 1) _ _ (0, 0) _ (by rfl) hr9.out Tryz.underlying34 rfl (by kernel_rfl)) rfl ?_
      exact FL.out _ _ _ HDD.out hL4 s3 (below_and B3 le hb4) hg9
    have k2' : (k == 2) = false := by simp [k2]
    by_cases k3 : k = 3
    · subst k3
      clear k1 k2 k1' k2'
      have HS := (show Hid (∀ z, Below w.heap.size w z → Calls Tryz.prog 40 #[.slice a2 uu.length c2, .slice aa oa.length ca] z fun e w' => e = .returned (.bool (decide (uu = oa))) ∧ w' = z) from fun z hz => same_any z _ _ _ _ (HT2.out.mv (Mv.belowG hz)).1 (HT.out.2.1.mv (Mv.belowG hz)).1)
      go_wp2_with fail
      by_cases hq : uu = oa
      · rw [decide_eq_true hq] at HS
        have HDD := (show Hid (doL ys (3, on, oa, ob, u) = (putR on ob ys, 0, [])) by show _ = _; rw [HD.out]; unfold doR; simp only; rw [HG.out]; exact if_pos hq)
        clear hq
        go_big_quiet ((go_at_call 40; exact quiet_as (HS.out _ (bel_dnE B3 _)) rfl))
        have B4 := bel_dnE B3 nq
        have r4 : Row (w3.drewN nq) (w.heap.size + 1) 34 [.int .i64 0, .slice none 0 0] := r3
        have f1 : (w3.drewN nq).cell? ⟨w.heap.size, 1, none⟩ = some (.slice an on.length cn) := d1
        have f3 : (w3.drewN nq).cell? ⟨w.heap.size, 3, none⟩ = some (.slice ab ob.length cb) := d3
        have s4 : w.heap.size + 2 ≤ (w3.drewN nq).heap.size := s3
        obtain ⟨w4, hw4⟩ : ∃ w4, w4 = w3.drewN nq := ⟨_, rfl⟩
        rw [← hw4] at B4 r4 f1 f3 s4 ⊢
        have HW2 := refWithG_any w w4 B4 _ ys HV.out HRG.out.1 _ _ on ob HT.out.1 HT.out.2.2
        rw [wi_put HRG.out.2.1] at HW2
        clear q0 q1 z0 z1 m1 d1 d2 d3 hw4 HS
        go_wp2_with (first
          | (go_at_call 67; refine HW2.mono ?_; rintro e w5 ⟨v5, rfl, hL5, hb5⟩; have r5 := r4.below hb5)
          | (refine wl_store rfl _ _ _ rfl (w.heap.size + 1) [.int .i64 0, .slice none 0 0] rfl rfl _ _ r5 rfl (by kernel_rfl) (one_res rfl) ?_; intro w9 hr9 hg9))
        refine bodyPost_ret (results_tc rfl _ _ (w.heap.size + 1) _ _ (0, 0) _ (by rfl) hr9.out Tryz.underlying34 rfl (by kernel_rfl)) rfl ?_
        exact FL.out _ _ _ HDD.out hL5 s4 (below_and B4 le hb5) hg9
      · rw [decide_eq_false hq] at HS
        have HDD := (show Hid (doL ys (3, on, oa, ob, u) = (ys, 2, uu)) by show _ = _; rw [HD.out]; unfold doR; simp only; rw [HG.out]; exact if_neg hq)
        clear hq
        go_big_quiet ((go_at_call 40; exact quiet_as (HS.out _ (bel_dnE B3 _)) rfl))
        have B4 := bel_dnE B3 nq
        have r4 : Row (w3.drewN nq) (w.heap.size + 1) 34 [.int .i64 0, .slice none 0 0] := r3
        have m4 : (w3.drewN nq).cell? ⟨b, off + p * 2 + 1, none⟩ = some (.slice a2 uu.length c2) := m1
        obtain ⟨w4, hw4⟩ : ∃ w4, w4 = w3.drewN nq := ⟨_, rfl⟩
        rw [← hw4] at B4 r4 m4 ⊢
        clear q0 q1 z0 z1 m1 d1 d2 d3 hw4 HS
        have q0 := r4.cell (j := 0) rfl
        have q1 := r4.cell (j := 1) rfl
        have z0 := r4.frozen 0
        have z1 := r4.frozen 1
        go_wp2_with fail
        go_region
        have hr9 := (r4.set 0 (.int .i64 2)).set 1 (.slice a2 uu.length c2)
        have hg9 := grown_to_drew (grown_trans (grown_set w4 (w.heap.size + 1) 0 (.int .i64 2)) (grown_set _ (w.heap.size + 1) 1 (.slice a2 uu.length c2)) (.inl rfl))
        go_wp2_with fail
        refine bodyPost_ret (results_tc rfl _ _ (w.heap.size + 1) _ _ (0, 0) _ (by rfl) hr9 Tryz.underlying34 rfl (by kernel_rfl)) rfl ?_
        exact FB.out 2 _ uu HDD.out HT2.out B4 hg9
    have k3' : (k == 3) = false := by simp [k3]
    have HDD := (show Hid (doL ys (k, on, oa, ob, u) = (ys.take p ++ ys.drop (p + 1), 0, [])) by show _ = _; rw [HD.out]; unfold doR; simp only; rw [HG.out]; simp only; rw [if_neg k1, if_neg k2, if_neg k3, HDEL.out])
    clear q0 q1 z0 z1 m1 d1 d2 d3 k1 k2 k3
    have hF0 : LB (RSG GG w) 82 2 w3.heap.size (w3.alloc (.cells #[] 82)) (.slice (some ⟨w3.heap.size, 0, none⟩) 0 0) [] := LB.fresh _ _ _ _ _ (Nat.le_refl _)
    have B4 : Below w.heap.size w (w3.alloc (.cells #[] 82)) := below_and B3 le (below_alloc _ _)
    have hs4 : w3.heap.size ≤ (w3.alloc (.cells #[] 82)).heap.size := (below_alloc w3 (.cells #[] 82)).size
    have r4 : Row (w3.alloc (.cells #[] 82)) (w.heap.size + 1) 34 [.int .i64 0, .slice none 0 0] := r3.below (below_alloc _ _)
    have HTK := (show Hid ((rows.take p).length = p ∧ (∀ r ∈ rows.take p, r.length = 2) ∧ (∀ z, Below w.heap.size w z → ∀ (i : Nat) (r : List Value), (rows.take p)[i]? = some r → z.rangeAt b (off + i * 2) r) ∧ All2 (RSG GG w Any w) (rows.take p) (ys.take p)) from by
      obtain ⟨g1, g2, g3, g4⟩ := HSR.out
      refine ⟨by rw [List.length_take]; omega, fun r hr => g1 r (List.mem_of_mem_take hr), fun z hz i r hi => ?_, (g3.take p).mono fun r y h => RSG.of h _ _⟩
      rw [List.getElem?_take] at hi
      split at hi
      · exact rangeAt_block (g2 i r hi) (hz.block b hbb)
      · cases hi)
    have HDR := (show Hid ((rows.drop (p + 1)).length = ys.length - (p + 1) ∧ (∀ r ∈ rows.drop (p + 1), r.length = 2) ∧ (∀ z, Below w.heap.size w z → ∀ (i : Nat) (r : List Value), (rows.drop (p + 1))[i]? = some r → z.rangeAt b (off + (p + 1) * 2 + i * 2) r) ∧ All2 (RSG GG w Any w) (rows.drop (p + 1)) (ys.drop (p + 1))) from by
      obtain ⟨g1, g2, g3, g4⟩ := HSR.out
      refine ⟨by rw [List.length_drop]; omega, fun r hr => g1 r (List.mem_of_mem_drop hr), fun z hz i r hi => ?_, (g3.drop (p + 1)).mono fun r y h => RSG.of h _ _⟩
      rw [List.getElem?_drop] at hi
      have := rangeAt_block (g2 _ r hi) (hz.block b hbb)
      rw [Nat.add_mul, ← Nat.add_assoc] at this
      exact this)
    go_upto_region 18 with (at_builtin; refine wl_addNG (w0 := w) (B := w3.heap.size) rfl _ _ rfl (.slice (some ⟨w3.heap.size, 0, none⟩) 0 0) [] rfl hF0 hs4 b off p cap (rows.take p) (ys.take p) rfl HTK.out.1 HTK.out.2.1 (HTK.out.2.2.1 _ B4) HTK.out.2.2.2 (by simp only [List.length_nil]; omega) ?_; intro v5 w5 hL5 hg5)
    have hg5 : (w3.alloc (.cells #[] 82)).grownBy w5 (some w3.heap.size) := hg5
    have B5 : Below w.heap.size w w5 := B4.trans (grown_below hg5 B4.size (fun j hj => by cases hj; omega))
    have r5 := r4.grown hg5 (fun e => by injection e with e; omega)
    have s5 : w3.heap.size ≤ w5.heap.size := Nat.le_trans hs4 hg5.size
    rw [List.nil_append] at hL5
    have htl : (ys.take p).length = p := by rw [List.length_take]; omega
    have HTL := (show Hid ((ys.take p).length = p) from htl)
    clear htl hF0 B4 r4 hg5 hs4
    by_cases hci : cap = p + 1
    · have hdn : ys.drop (p + 1) = [] := List.drop_of_length_le (by omega)
      rw [hdn] at HDD
      have hNp : ys.length - (p + 1) = 0 := by omega
      have HNP := (show Hid (ys.length - (p + 1) = 0) from hNp)
      clear hdn hNp
      subst hci
      go_wp2_with (first
        | (at_builtin; refine wl_addNG (w0 := w) (B := w3.heap.size) rfl _ _ rfl v5 (ys.take p) rfl hL5 s5 b off (ys.length - (p + 1)) 0 [] [] (by simp [Act.eval, Act.put]; omega) HNP.out.symm (fun r hr => by cases hr) (fun i r hr => by simp at hr) trivial (by rw [HTL.out]; omega) ?_; intro v6 w6 hL6 hg6; have B6 : Below w.heap.size w w6 := B5.trans (grown_below hg6 B5.size (fun j hj => Nat.le_trans B3.size (hL5.fr j hj))); have r6 := r5.grown hg6 (fun e => by have := hL5.fr _ e; omega))
        | (refine wl_store rfl _ _ _ rfl (w.heap.size + 1) [.int .i64 0, .slice none 0 0] rfl rfl _ _ r6 rfl (by kernel_rfl) (one_res rfl) ?_; intro w9 hr9 hg9))
      refine bodyPost_ret (results_tc rfl _ _ (w.heap.size + 1) _ _ (0, 0) _ (by rfl) hr9.out Tryz.underlying34 rfl (by kernel_rfl)) rfl ?_
      exact FL.out _ _ _ HDD.out hL6 s3 B6 hg9
    · go_wp2_with (first
        | (at_builtin; refine wl_addNG (w0 := w) (B := w3.heap.size) rfl _ _ rfl v5 (ys.take p) rfl hL5 s5 b (off + (p + 1) * 2) (ys.length - (p + 1)) (cap - (p + 1)) (rows.drop (p + 1)) (ys.drop (p + 1)) (by simp [Act.eval, Act.put, hci]) HDR.out.1 HDR.out.2.1 (HDR.out.2.2.1 _ B5) HDR.out.2.2.2 (by rw [HTL.out]; omega) ?_; intro v6 w6 hL6 hg6; have B6 : Below w.heap.size w w6 := B5.trans (grown_below hg6 B5.size (fun j hj => Nat.le_trans B3.size (hL5.fr j hj))); have r6 := r5.grown hg6 (fun e => by have := hL5.fr _ e; omega))
        | (refine wl_store rfl _ _ _ rfl (w.heap.size + 1) [.int .i64 0, .slice none 0 0] rfl rfl _ _ r6 rfl (by kernel_rfl) (one_res rfl) ?_; intro w9 hr9 hg9))
      refine bodyPost_ret (results_tc rfl _ _ (w.heap.size + 1) _ _ (0, 0) _ (by rfl) hr9.out Tryz.underlying34 rfl (by kernel_rfl)) rfl ?_
      exact FL.out _ _ _ HDD.out hL6 s3 B6 hg9
end Go.Proofs.YtejkkhlblnepeaaGreat
end

section
set_option linter.unusedVariables false
set_option linter.unusedSimpArgs false
namespace Go.Proofs.YtejkkhlblnepeaaGreat
open Go.RowKit Oct Kvl

/-- The loop of the document's With: whether it is put already, and the rest. -/
def wiS (n v : List Int) : Bool → List PEnt → List PEnt
  | put, [] => if put then [] else [(n, v)]
  | put, x :: r => (if put = false ∧ ¬ cmpL x.1 n < 0 then [(n, v)] else []) ++ ((if x.1 = n then [] else [x]) ++ wiS n v (put || !decide (cmpL x.1 n < 0)) r)
theorem wiS_done {n v : List Int} : ∀ {l : List PEnt}, (∀ e ∈ l, e.1 ≠ n) → wiS n v true l = l
  | [], _ => rfl
  | x :: r, h => by
    unfold wiS
    rw [if_neg (by simp), if_neg (h x (by simp)), Bool.true_or, wiS_done (fun e he => h e (by simp [he]))]; rfl
theorem wiS_put {n v : List Int} : ∀ {l : List PEnt} {m : List Int}, up m l → wiS n v false l = putR n v l
  | [], _, _ => rfl
  | x :: r, m, h => by
    unfold wiS putR
    by_cases h1 : cmpL x.1 n < 0
    · rw [if_neg (fun hh => hh.2 h1), if_neg (cmp_lt_ne h1), if_pos h1, decide_eq_true h1]
      show [] ++ ([x] ++ wiS n v (false || !true) r) = _
      rw [show (false || !true) = false from rfl, wiS_put h.2]; rfl
    · rw [if_pos ⟨rfl, h1⟩, if_neg h1, decide_eq_false h1, show (false || !false) = true from rfl]
      by_cases h2 : x.1 = n
      · rw [if_pos h2, if_pos h2, wiS_done]
        · rfl
        · exact fun e he => fun e1 => cmp_lt_ne (up_low h.2 e he) (by rw [e1, h2])
      · rw [if_neg h2, if_neg h2, wiS_done]
        · rfl
        · exact fun e he => fun e1 => cmp_lt_ne (cmp_trans (cmp_gt h1 h2) (up_low h.2 e he)) e1.symm
end Go.Proofs.YtejkkhlblnepeaaGreat
end

section
set_option linter.unusedVariables false
set_option linter.unusedSimpArgs false
namespace Go.Proofs.YtejkkhlblnepeaaGreat
open Go.RowKit Oct Kvl

/-- Leases whose texts lie in memory that was there in w0. -/
def RSlG (GG : Nat → Prop) (w0 : World) (G : Nat → Prop) (w : World) (r : List Value) (x : PEnt) : Prop := ∀ u, Below w0.heap.size w0 u → RLea GG u r x
theorem mov_rslG {GG : Nat → Prop} (w0 : World) : Mov (RSlG GG w0) := fun _ _ _ _ _ _ h _ _ => h
theorem RSlG.of {GG : Nat → Prop} {w0 : World} {r : List Value} {x : PEnt} (h : RLea GG w0 r x) (G : Nat → Prop) (w : World) : RSlG GG w0 G w r x := fun u hu => mov_lea _ _ _ _ _ _ h hu.size (Mv.belowG hu)
theorem LB.rslG {GG : Nat → Prop} {w0 w : World} {B : Nat} {v : Value} {zs : List PEnt} (h : LB (RSlG GG w0) 84 3 B w v zs) (hb : Below w0.heap.size w0 w) (hG : ∀ k, B ≤ k → GG k) : RL RLea 3 GG w v zs := by
  obtain ⟨rows, h1, h2⟩ := (h.rl (mov_rslG w0)).mv (mov_rslG w0) (Nat.le_refl _) (fun k hk _ => ⟨rfl, hG k hk⟩)
  exact ⟨rows, h1, h2.mono fun r a h => h w hb⟩

set_option maxRecDepth 10000 in
set_option maxHeartbeats 8000000 in
theorem refWithSG_some {GG : Nat → Prop} (w00 w : World) (h00 : Below w00.heap.size w00 w) (bb off cap : Nat) (ys : List PEnt) (hl : 0 < ys.length) (h64 : ys.length ≤ 64) (hc : ys.length ≤ cap) (hm : cap ≤ maxLen) (hbb : bb < w.heap.size)
    (hx : ∀ (i : Nat) (a : PEnt), ys[i]? = some a → ∃ r, r.length = 3 ∧ w.rangeAt bb (off + i * 3) r ∧ RLea GG w00 r a) (nv : Value) (n : List Int) (np nq' : Int) (hn : RT GG w00 nv n) :
    Calls Tryz.prog 70 #[.slice (some ⟨bb, off, none⟩) ys.length cap, .agg #[nv, .int .i64 np, .int .i64 nq']] w fun e w' => ∃ v', e = .returned v' ∧ LB (RSlG GG w00) 84 3 w.heap.size w' v' (wiS n [np, nq'] false ys) ∧ Below w.heap.size w w' := by
  have HX := (show Hid (∀ (i : Nat) (a : PEnt), ys[i]? = some a → ∃ r, r.length = 3 ∧ w.rangeAt bb (off + i * 3) r ∧ RLea GG w00 r a) from hx)
  have hlm : (ys.length : Int) ≤ 9223372036854775807 := by omega
  obtain ⟨an, cn, rfl, hcn⟩ := hn.form
  have HNV := (show Hid (RLea GG w00 [.slice an n.length cn, .int .i64 np, .int .i64 nq'] (n, [np, nq'])) from ⟨_, _, _, rfl, hn, rfl⟩)
  have HS := (show Hid (∀ (u : World) (s : Value) (l : List Int), Below w00.heap.size w00 u → RT GG w00 s l → Calls Tryz.prog 40 #[s, .slice an n.length cn] u fun e w' => e = .returned (.bool (decide (l = n))) ∧ w' = u) from fun u s l hu hs => same_any u _ _ _ _ (hs.mv (Mv.belowG hu)).1 (hn.mv (Mv.belowG hu)).1)
  have HLe := (show Hid (∀ (u : World) (s : Value) (l : List Int), Below w00.heap.size w00 u → RT GG w00 s l → Calls Tryz.prog 76 #[s, .slice an n.length cn] u fun e w' => e = .returned (.bool (decide (cmpL l n < 0))) ∧ w' = u) from fun u s l hu hs => less_any u _ _ _ _ (hs.mv (Mv.belowG hu)).1 (hn.mv (Mv.belowG hu)).1)
  clear hx hn
  obtain ⟨w0, hw0⟩ : ∃ w0, w0 = w.alloc (.cells #[.slice an n.length cn, .int .i64 np, .int .i64 nq'] 84) := ⟨_, rfl⟩
  have x0 : Row w0 w.heap.size 84 [.slice an n.length cn, .int .i64 np, .int .i64 nq'] := by rw [hw0]; exact Row.new w _ _
  have B0 : Below w.heap.size w w0 := by rw [hw0]; exact below_alloc _ _
  obtain ⟨Ln, hLn⟩ : ∃ L, n.length = L := ⟨_, rfl⟩
  obtain ⟨N, hN⟩ : ∃ N, ys.length = N := ⟨_, rfl⟩
  rw [hLn] at HS HLe HNV x0 hw0 ⊢
  rw [hN] at hl h64 hc hlm ⊢
  have HN := (show Hid (ys.length = N) from hN)
  clear hLn hN
  go_enter Tryz.func70, Tryz.ntmps70
  go_upto_region 1 with fail
  rw [← hw0]
  clear hw0
  have hxl := x0.lt
  go_wp2_with fail
  go_loopw [5, 6, 12] (fun o p i wr => ∃ (q : Nat) (put : Bool) (zs : List PEnt), q ≤ N ∧ i = .int .i64 q ∧ p = .bool put ∧ zs.length ≤ 2 * q ∧ LB (RSlG GG w00) 84 3 w0.heap.size wr o zs ∧ Below w0.heap.size w0 wr ∧ Hid (wiS n [np, nq'] false ys = zs ++ wiS n [np, nq'] put (ys.drop q))) (fun _ _ i _ => N - (intOf i).toNat)
  case atStart => exact ⟨0, false, [], by omega, rfl, rfl, by simp, LB.fresh _ _ _ _ _ (Nat.le_refl _), below_alloc w0 _, rfl⟩
  case round =>
    obtain ⟨q, put, zs, hq, rfl, rfl, hzl, hLB, hB0, hI⟩ := hrel
    have hB := below_and B0 (Nat.le_refl _) hB0
    have xr := x0.below hB0
    by_cases hql : q < N
    · obtain ⟨x, hx⟩ : ∃ x, ys[q]? = some x := ⟨_, List.getElem?_eq_getElem (by have := HN.out; omega)⟩
      obtain ⟨r, _, hrng, s1, p1, q1, rfl, t1, t2⟩ := HX.out q x hx
      have hrng := rangeAt_block hrng (hB.block bb hbb)
      obtain ⟨a1, c1, rfl, hc1⟩ := t1.form
      have hrow0 := Row.new wr 84 [.slice none 0 0, .int .i64 0, .int .i64 0]
      have HD := (show Hid (ys.drop q = x :: ys.drop (q + 1)) from drop_cons hx)
      have HXE := (show Hid (RLea GG w00 [.slice a1 x.1.length c1, .int .i64 p1, .int .i64 q1] x) from ⟨_, _, _, rfl, t1, t2⟩)
      have HT1 := (show Hid (RT GG w00 (.slice a1 x.1.length c1) x.1) from t1)
      have hone := onL3 (p := p1) (q := q1) t1.one
      clear t1 t2 hx
      obtain ⟨L1, hL1⟩ : ∃ L, x.1.length = L := ⟨_, rfl⟩
      rw [hL1] at hrng hone HXE HT1
      clear hL1
      go_upto_region 6 with (first
        | (refine wpList_load_mid rfl _ _ rfl bb (off + q * 3) rfl [.slice a1 L1 c1, .int .i64 p1, .int .i64 q1] _ hrng Tryz.underlying84 rfl (by kernel_rfl) ?_)
        | (refine wl_store rfl _ _ _ rfl wr.heap.size [.slice a1 L1 c1, .int .i64 p1, .int .i64 q1] rfl rfl _ _ hrow0 rfl (by kernel_rfl) hone ?_; intro w5 hr5 hg5))
      have hb5 : Below wr.heap.size wr w5 := (below_alloc wr (.cells ([.slice none 0 0, .int .i64 0, .int .i64 0] : List Value).toArray 84)).trans (grown_below hg5 (by simp) (fun k hk => by cases hk; exact Nat.le_refl _))
      have B5 : Below w0.heap.size w0 w5 := below_and hB0 (Nat.le_refl _) hb5
      have W5 := below_and h00 (Nat.le_refl _) (below_and B0 (Nat.le_refl _) B5)
      have hr5 := hr5.out
      have x5 := x0.below B5
      have hLB5 := hLB.below (mov_rslG w00) hb5
      have hlt5 : ∀ g, u5.ownBlock = some g → g < wr.heap.size := hLB.lt
      have hge5 : ∀ g, u5.ownBlock = some g → w0.heap.size ≤ g := hLB.fr
      have hs5 : wr.heap.size < w5.heap.size := hr5.lt
      have HS5 := fun u (hu : Below w00.heap.size w00 u) => HS.out u _ x.1 hu HT1.out
      have HL5 := HLe.out w5 _ x.1 W5 HT1.out
      clear hg5 hrow0 hrng hone hb5 hLB
      have e0 := hr5.cell (j := 0) rfl
      have f0 := x5.cell (j := 0) rfl
      cases put with
      | false =>
        by_cases hlt : cmpL x.1 n < 0
        · rw [decide_eq_true hlt] at HL5
          have HS6 := HS5 w5 W5
          rw [decide_eq_false (cmp_lt_ne hlt)] at HS6
          go_wp2_with (first
            | (go_at_call 76; refine HL5.mono ?_; rintro e w5 ⟨rfl, rfl⟩)
            | (go_at_call 40; refine HS6.mono ?_; rintro e w5 ⟨rfl, rfl⟩)
            | (refine wl_load rfl _ _ rfl wr.heap.size rfl _ _ hr5 _ Tryz.underlying84 rfl (by kernel_rfl) ?_)
            | (at_builtin; refine wl_push (mov_rslG w00) rfl _ _ _ rfl 84 3 40 _ Tryz.underlying23 Tryz.infL rfl (by decide) w0.heap.size u5 zs rfl hLB5 [.slice a1 L1 c1, .int .i64 p1, .int .i64 q1] x w5.heap.size (RSlG.of HXE.out _ _) rfl (one_RS HXE.out) B5.size (fun g hg => Nat.lt_trans (hlt5 g hg) hs5) rfl B5.size (by omega) (by decide) ?_; intro v8 w8 hLB8 hg8))
          have B8 : Below w0.heap.size w0 w8 := B5.trans (grown_below hg8 B5.size (fun k hk => hge5 k hk))
          go_roundw
          case rel => exact ⟨q + 1, false, zs ++ [x], by omega, by go_num, rfl, by simp only [List.length_append, List.length_cons, List.length_nil]; omega, hLB8, B8, by
            show _ = _
            rw [hI.out, HD.out, wiS, if_neg (fun hh => hh.2 hlt), if_neg (cmp_lt_ne hlt), decide_eq_true hlt]
            simp⟩
          case measure => simp [intOf]; omega
        rw [decide_eq_false hlt] at HL5
        have HLT := (show Hid (¬ cmpL x.1 n < 0) from hlt)
        clear hlt
        go_upto_region 9 with (first
          | (go_at_call 76; refine HL5.mono ?_; rintro e w5 ⟨rfl, rfl⟩)
          | (refine wl_load rfl _ _ rfl w.heap.size rfl _ _ x5 _ Tryz.underlying84 rfl (by kernel_rfl) ?_)
          | (at_builtin; refine wl_push (mov_rslG w00) rfl _ _ _ rfl 84 3 40 _ Tryz.underlying23 Tryz.infL rfl (by decide) w0.heap.size u5 zs rfl hLB5 [.slice an Ln cn, .int .i64 np, .int .i64 nq'] (n, [np, nq']) w5.heap.size (RSlG.of HNV.out _ _) rfl (one_RS HNV.out) B5.size (fun g hg => Nat.lt_trans (hlt5 g hg) hs5) rfl B5.size (by omega) (by decide) ?_; intro v6 w6 hLB6 hg6))
        have B6 : Below w0.heap.size w0 w6 := B5.trans (grown_below hg6 B5.size (fun k hk => hge5 k hk))
        have W6 := below_and h00 (Nat.le_refl _) (below_and B0 (Nat.le_refl _) B6)
        have hr6 := hr5.grown hg6 (fun e => by have := hlt5 _ e; omega)
        have x6 := x0.below B6
        have e6 := hr6.cell (j := 0) rfl
        have f6 := x6.cell (j := 0) rfl
        have hge6 : ∀ g, v6.ownBlock = some g → w0.heap.size ≤ g := hLB6.fr
        have HS6 := HS5 w6 W6
        clear e0 f0
        by_cases heq : x.1 = n
        · rw [decide_eq_true heq] at HS6
          go_wp2_with (go_at_call 40; refine HS6.mono ?_; rintro e w6 ⟨rfl, rfl⟩)
          go_roundw
          case rel => exact ⟨q + 1, true, zs ++ [(n, [np, nq'])], by omega, by go_num, rfl, by simp only [List.length_append, List.length_cons, List.length_nil]; omega, hLB6, B6, by
            show _ = _
            rw [hI.out, HD.out, wiS, if_pos ⟨rfl, by have := HLT.out; omega⟩, if_pos heq, decide_eq_false (p := cmpL x.1 n < 0) (by have := HLT.out; omega)]
            simp⟩
          case measure => simp [intOf]; omega
        · rw [decide_eq_false heq] at HS6
          go_wp2_with (first
            | (go_at_call 40; refine HS6.mono ?_; rintro e w6 ⟨rfl, rfl⟩)
            | (refine wl_load rfl _ _ rfl wr.heap.size rfl _ _ hr6 _ Tryz.underlying84 rfl (by kernel_rfl) ?_)
            | (at_builtin; refine wl_push (mov_rslG w00) rfl _ _ _ rfl 84 3 40 _ Tryz.underlying23 Tryz.infL rfl (by decide) w0.heap.size v6 (zs ++ [(n, [np, nq'])]) rfl hLB6 [.slice a1 L1 c1, .int .i64 p1, .int .i64 q1] x w6.heap.size (RSlG.of HXE.out _ _) rfl (one_RS HXE.out) B6.size hLB6.lt rfl B6.size (by rw [List.length_append]; simp only [List.length_cons, List.length_nil]; omega) (by decide) ?_; intro v8 w8 hLB8 hg8))
          have B8 : Below w0.heap.size w0 w8 := B6.trans (grown_below hg8 B6.size (fun k hk => hge6 k hk))
          go_roundw
          case rel => exact ⟨q + 1, true, (zs ++ [(n, [np, nq'])]) ++ [x], by omega, by go_num, rfl, by simp only [List.length_append, List.length_cons, List.length_nil]; omega, hLB8, B8, by
            show _ = _
            rw [hI.out, HD.out, wiS, if_pos ⟨rfl, by have := HLT.out; omega⟩, if_neg heq, decide_eq_false (p := cmpL x.1 n < 0) (by have := HLT.out; omega)]
            simp⟩
          case measure => simp [intOf]; omega
      | true =>
        have HS6 := HS5 w5 W5
        by_cases heq : x.1 = n
        · rw [decide_eq_true heq] at HS6
          go_wp2_with (go_at_call 40; refine HS6.mono ?_; rintro e w5 ⟨rfl, rfl⟩)
          go_roundw
          case rel => exact ⟨q + 1, true, zs, by omega, by go_num, rfl, by omega, hLB5, B5, by
            show _ = _
            rw [hI.out, HD.out, wiS, if_neg (by simp), if_pos heq, Bool.true_or]
            simp⟩
          case measure => simp [intOf]; omega
        · rw [decide_eq_false heq] at HS6
          go_wp2_with (first
            | (go_at_call 40; refine HS6.mono ?_; rintro e w5 ⟨rfl, rfl⟩)
            | (refine wl_load rfl _ _ rfl wr.heap.size rfl _ _ hr5 _ Tryz.underlying84 rfl (by kernel_rfl) ?_)
            | (at_builtin; refine wl_push (mov_rslG w00) rfl _ _ _ rfl 84 3 40 _ Tryz.underlying23 Tryz.infL rfl (by decide) w0.heap.size u5 zs rfl hLB5 [.slice a1 L1 c1, .int .i64 p1, .int .i64 q1] x w5.heap.size (RSlG.of HXE.out _ _) rfl (one_RS HXE.out) B5.size (fun g hg => Nat.lt_trans (hlt5 g hg) hs5) rfl B5.size (by omega) (by decide) ?_; intro v8 w8 hLB8 hg8))
          have B8 : Below w0.heap.size w0 w8 := B5.trans (grown_below hg8 B5.size (fun k hk => hge5 k hk))
          go_roundw
          case rel => exact ⟨q + 1, true, zs ++ [x], by omega, by go_num, rfl, by simp only [List.length_append, List.length_cons, List.length_nil]; omega, hLB8, B8, by
            show _ = _
            rw [hI.out, HD.out, wiS, if_neg (by simp), if_neg heq, Bool.true_or]
            simp⟩
          case measure => simp [intOf]; omega
    · have he : ys.drop q = [] := List.drop_of_length_le (by have := HN.out; omega)
      have hqd : decide ((q : Int) < N) = false := by simp; omega
      have hge : ∀ g, u5.ownBlock = some g → w0.heap.size ≤ g := hLB.fr
      cases put with
      | true =>
        go_wp2_with fail
        go_ret
        refine ⟨_, rfl, ?_, hB⟩
        rw [hI.out, he, wiS, if_pos rfl, List.append_nil]
        exact hLB.weak (mov_rslG w00) B0.size
      | false =>
        go_wp2_with (first
          | (refine wl_load rfl _ _ rfl w.heap.size rfl _ _ xr _ Tryz.underlying84 rfl (by kernel_rfl) ?_)
          | (at_builtin; refine wl_push (mov_rslG w00) rfl _ _ _ rfl 84 3 40 _ Tryz.underlying23 Tryz.infL rfl (by decide) w0.heap.size u5 zs rfl hLB [.slice an Ln cn, .int .i64 np, .int .i64 nq'] (n, [np, nq']) wr.heap.size (RSlG.of HNV.out _ _) rfl (one_RS HNV.out) hB0.size hLB.lt rfl hB0.size (by omega) (by decide) ?_; intro v8 w8 hLB8 hg8))
        have B8 : Below w0.heap.size w0 w8 := hB0.trans (grown_below hg8 hB0.size (fun k hk => hge k hk))
        go_ret
        refine ⟨_, rfl, ?_, below_and B0 (Nat.le_refl _) B8⟩
        rw [hI.out, he, wiS, if_neg (by simp)]
        exact hLB8.weak (mov_rslG w00) B0.size

set_option maxRecDepth 10000 in
set_option maxHeartbeats 2000000 in
theorem refWithSG_none {GG : Nat → Prop} (w00 w : World) (h00 : Below w00.heap.size w00 w) (ao : Option Addr) (c : Nat) (nv : Value) (n : List Int) (np nq' : Int) (hn : RT GG w00 nv n) :
    Calls Tryz.prog 70 #[.slice ao 0 c, .agg #[nv, .int .i64 np, .int .i64 nq']] w fun e w' => ∃ v', e = .returned v' ∧ LB (RSlG GG w00) 84 3 w.heap.size w' v' (wiS n [np, nq'] false []) ∧ Below w.heap.size w w' := by
  obtain ⟨an, cn, rfl, hcn⟩ := hn.form
  have HNV := (show Hid (RLea GG w00 [.slice an n.length cn, .int .i64 np, .int .i64 nq'] (n, [np, nq'])) from ⟨_, _, _, rfl, hn, rfl⟩)
  obtain ⟨w0, hw0⟩ : ∃ w0, w0 = w.alloc (.cells #[.slice an n.length cn, .int .i64 np, .int .i64 nq'] 84) := ⟨_, rfl⟩
  have x0 : Row w0 w.heap.size 84 [.slice an n.length cn, .int .i64 np, .int .i64 nq'] := by rw [hw0]; exact Row.new w _ _
  have B0 : Below w.heap.size w w0 := by rw [hw0]; exact below_alloc _ _
  clear hn
  generalize n.length = Ln at *
  go_enter Tryz.func70, Tryz.ntmps70
  go_upto_region 1 with fail
  rw [← hw0]
  clear hw0
  have hB := below_alloc w0 (.cells #[] 84)
  have hLB : LB (RSlG GG w00) 84 3 w0.heap.size (w0.alloc (.cells #[] 84)) (.slice (some ⟨w0.heap.size, 0, none⟩) 0 0) [] := LB.fresh _ _ _ _ _ (Nat.le_refl _)
  have x1 := x0.below hB
  go_wp2_with fail
  obtain ⟨w1, hw1⟩ : ∃ w1, w1 = w0.alloc (.cells #[] 84) := ⟨_, rfl⟩
  rw [← hw1] at hB hLB x1 ⊢
  clear hw1
  refine wp_loop_rounds 1 ?_; rw [rounds_succ]
  go_wp2_with (first
    | (refine wl_load rfl _ _ rfl w.heap.size rfl _ _ x1 _ Tryz.underlying84 rfl (by kernel_rfl) ?_)
    | (at_builtin; refine wl_push (mov_rslG w00) rfl _ _ _ rfl 84 3 40 _ Tryz.underlying23 Tryz.infL rfl (by decide) w0.heap.size (.slice (some ⟨w0.heap.size, 0, none⟩) 0 0) [] rfl hLB [.slice an Ln cn, .int .i64 np, .int .i64 nq'] (n, [np, nq']) w1.heap.size (RSlG.of HNV.out _ _) rfl (one_RS HNV.out) hB.size hLB.lt rfl hB.size (by decide) (by decide) ?_; intro v8 w8 hLB8 hg8))
  have B8 : Below w0.heap.size w0 w8 := hB.trans (grown_below hg8 hB.size (fun k hk => hLB.fr k hk))
  go_ret
  refine ⟨_, rfl, ?_, below_and B0 (Nat.le_refl _) B8⟩
  rw [wiS, if_neg (by simp)]
  exact hLB8.weak (mov_rslG w00) B0.size
/-- The document's With. -/
theorem refWithSG_any {GG : Nat → Prop} (w00 w : World) (h00 : Below w00.heap.size w00 w) (B : Nat) (ev : Value) (ys : List PEnt) (h : LB (RSlG GG w00) 84 3 B w ev ys) (h64 : ys.length ≤ 64) (nv : Value) (n : List Int) (np nq' : Int) (hn : RT GG w00 nv n) :
    Calls Tryz.prog 70 #[ev, .agg #[nv, .int .i64 np, .int .i64 nq']] w fun e w' => ∃ v', e = .returned v' ∧ LB (RSlG GG w00) 84 3 w.heap.size w' v' (wiS n [np, nq'] false ys) ∧ Below w.heap.size w w' := by
  have h1 := h.rl (mov_rslG w00)
  by_cases hl : 0 < ys.length
  · obtain ⟨b1, o1, c1, rfl, hc1, hm1, _, hb1, hx1⟩ := h1.at hl
    exact refWithSG_some w00 w h00 b1 o1 c1 ys hl h64 hc1 hm1 hb1 (fun i a ha => by obtain ⟨r, e1, e2, e3⟩ := hx1 i a ha; exact ⟨r, e1, e2, e3 w00 (Below.refl _ _)⟩) nv n np nq' hn
  · obtain rfl : ys = [] := List.eq_nil_of_length_eq_zero (by omega)
    obtain ⟨ao, c, rfl, _⟩ := h1.form
    exact refWithSG_none w00 w h00 ao c nv n np nq' hn
end Go.Proofs.YtejkkhlblnepeaaGreat
end

section
set_option linter.unusedVariables false
set_option linter.unusedSimpArgs false
namespace Go.Proofs.YtejkkhlblnepeaaGreat
open Go.RowKit Oct Kvl

section
variable {P : Program}
/-- One more record, and where the row then lies. -/
theorem wl_push2 {α : Type} {R : (Nat → Prop) → World → List Value → α → Prop} (hR : Mov R) {w : World} {ops : Array Oper} {rest : List Oper} {o : Oper} {a : Act} {Q : Exit → Act → World → Prop} (hgd : o.guard = none) (s x : Operand) (t : TypeId)
    (ho : o.op = .call { callee := .builtin .append, args := #[s, x], argTypes := #[t, t] }) (e : TypeId) (k bytes : Nat) (z : Value) (ht : P.underlying t = some (.slice e)) (hi : (P.info? e).map (fun i => (i.zero, i.size, i.bytes)) = some (some z, k, bytes))
    (hzs : z.cells.size = k) (hk : 0 < k) (B : Nat) (v : Value) (ys : List α) (hs : a.eval s = v) (hL : LB R e k B w v ys) (r : List Value) (y : α) (C : Nat) (hr : R (From C) w r y) (hrl : r.length = k) (h1 : ∀ u ∈ r, u.oneCell' = true)
    (hC : B ≤ C) (hCv : ∀ g, v.ownBlock = some g → g < C) (hx : a.eval x = .slice (some ⟨w.heap.size, 0, none⟩) 1 1) (hB : B ≤ w.heap.size)
    (hb : (ys.length + 1) * bytes ≤ 140737488355328) (hb0 : 1 ≤ bytes)
    (h : ∀ v' w', LB R e k B w' v' (ys ++ [y]) → w.grownBy w' v.ownBlock → (v'.ownBlock = v.ownBlock ∨ ∀ g, v'.ownBlock = some g → w.heap.size ≤ g) → wpList P ops Q rest (a.put o.dst v') w') : wpList P ops Q (o :: rest) a (w.alloc (.cells r.toArray e)) := by
  obtain ⟨i0, hi, hz0, hz1, hz2⟩ := info_parts hi
  obtain ⟨rows, h0, hown, hfr, hall⟩ := hL
  have hlen := hall.len
  have hbel := below_alloc w (.cells r.toArray e)
  have hown1 : (w.alloc (.cells r.toArray e)).ownsRow 0 e k v rows.length rows.flatten := World.ownsRow.kept (row := none) hown ⟨hbel.os, hbel.tape, hbel.output, hbel.size, fun k hk _ => hbel.block k hk⟩ (by cases hv : v.ownBlock <;> simp)
  have hmul : ys.length + 1 ≤ (ys.length + 1) * bytes := Nat.le_mul_of_pos_right _ hb0
  refine wpList_append_lies (w.alloc (.cells r.toArray e)) hgd s x t ho 0 e i0 z k bytes ht hi hz0 hz1 hz2 hzs hk v rows.length rows.flatten hs hown1 ⟨w.heap.size, 0, none⟩ 1 1 r hx (by omega)
    (fun j u hj => by
      rw [Addr.add_mid, Nat.zero_add]
      exact (Row.new w e r).cell hj) h1 (by omega) (by rw [hlen]; unfold maxLen; omega) (by rw [hlen]; exact hb) (Nat.zero_le _) (w.heap.size + 1) (by simp) ?_
  intro g cap w' hown' hgr hat hlt
  have hg0 : w.grownBy w' v.ownBlock := grown_trans (grown_of_below hbel _) hgr (.inl rfl)
  have hgB : B ≤ g := by
    rcases hat with hat | hat
    · exact hfr g hat
    · omega
  have hflat : rows.flatten ++ r = (rows ++ [r]).flatten := by simp
  refine h _ w' ⟨rows ++ [r], ?_, ?_, ?_, ?_⟩ hg0 (hat.imp (fun e => e.symm) (fun e q hq => by simp [Value.ownBlock] at hq; omega))
  · intro q hq
    rcases List.mem_append.1 hq with hq | hq
    · exact h0 q hq
    · simp at hq; subst hq; exact hrl
  · rw [List.length_append, ← hflat]
    exact hown'
  · exact fun j hj => by simp [Value.ownBlock] at hj; omega
  · have hold : All2 (R (fun b => B ≤ b ∧ (Value.slice (some ⟨g, 0, none⟩) (rows.length + 1) cap).ownBlock ≠ some b) w') rows ys := hall.mono fun q b hq => hR _ _ w w' q b hq hg0.size fun j hj hjl => by
      refine ⟨hg0.block j hjl (fun e => hj.2 e.symm), hj.1, fun e => ?_⟩
      simp [Value.ownBlock] at e
      rcases hat with hat | hat
      · exact hj.2 (by rw [hat, e])
      · omega
    have hnew : R (fun b => B ≤ b ∧ (Value.slice (some ⟨g, 0, none⟩) (rows.length + 1) cap).ownBlock ≠ some b) w' r y := hR _ _ w w' r y hr hg0.size fun j hj hjl => by
      unfold From at hj
      refine ⟨hg0.block j hjl (fun e => by have := hCv j e.symm; omega), by omega, fun e => ?_⟩
      simp [Value.ownBlock] at e
      rcases hat with hat | hat
      · have := hCv g hat; omega
      · omega
    exact All2.app hold ⟨hnew, trivial⟩

end
theorem LB.keptSG {GG : Nat → Prop} {w0 w w' : World} {v : Value} {zs : List PEnt} {B : Nat} {row : Option Nat} (h : LB (RSlG GG w0) 84 3 B w v zs) (hg : w.grownBy w' row) (hn : ∀ g, row = some g → v.ownBlock ≠ some g) : LB (RSlG GG w0) 84 3 B w' v zs := by
  obtain ⟨rows, h0, h1, h2, h3⟩ := h
  refine ⟨rows, h0, World.ownsRow.kept h1 hg ?_, h2, h3⟩
  cases hv : v.ownBlock with
  | none => exact .inl rfl
  | some k => exact .inr fun e => hn k e.symm hv
def RqSG (GG : Nat → Prop) (w : World) (x : List PEnt × Int × List Int) (e : Ending) (w' : World) : Prop :=
  ∃ v' vv, e = .returned (.tuple #[v', .agg #[.int .i64 x.2.1, vv]]) ∧ RL RLea 3 GG w' v' x.1 ∧ RT GG w' vv x.2.2 ∧ Below w.heap.size w w'
/-- The leases of other names. -/
def oth (n : List Int) (l : List PEnt) : List PEnt := l.filter fun x => !decide (x.1 = n)
theorem oth_all {n : List Int} {l : List PEnt} (h : ∀ e ∈ l, e.1 ≠ n) : oth n l = l := by
  unfold oth
  rw [List.filter_eq_self]
  intro e he
  simp [h e he]
theorem oth_del {n : List Int} : ∀ {l : List PEnt} {m : List Int}, up m l → oth n l = delR n l
  | [], _, _ => rfl
  | x :: r, m, h => by
    have ih := oth_del (n := n) h.2
    unfold oth at ih ⊢
    unfold delR
    rw [List.filter_cons]
    by_cases h1 : cmpL x.1 n < 0
    · rw [if_pos h1, decide_eq_false (cmp_lt_ne h1), ih]; rfl
    · rw [if_neg h1]
      by_cases h2 : x.1 = n
      · rw [if_pos h2, decide_eq_true h2]
        exact oth_all fun e he => fun e1 => cmp_lt_ne (up_low h.2 e he) (by rw [e1, h2])
      · rw [if_neg h2, decide_eq_false h2]
        show x :: oth n r = x :: r
        rw [oth_all fun e he => fun e1 => cmp_lt_ne (cmp_trans (cmp_gt h1 h2) (up_low h.2 e he)) e1.symm]
theorem liv_snoc {now : Int} {ys : List PEnt} {q : Nat} {x : PEnt} (h : ys[q]? = some x) : liv now (ys.take (q + 1)) = liv now (ys.take q) ++ (if now < lu x.2 then [x] else []) := by
  unfold liv
  rw [List.take_add_one, h, Option.toList_some, List.filter_append, List.filter_cons]
  by_cases h1 : now < lu x.2
  · rw [decide_eq_true h1, if_pos h1]; rfl
  · rw [decide_eq_false h1, if_neg h1]; rfl
theorem oth_snoc {n : List Int} {l : List PEnt} {x : PEnt} : oth n (l ++ [x]) = oth n l ++ (if x.1 = n then [] else [x]) := by
  unfold oth
  rw [List.filter_append, List.filter_cons]
  by_cases h1 : x.1 = n
  · rw [decide_eq_true h1, if_pos h1]; rfl
  · rw [decide_eq_false h1, if_neg h1]; rfl
end Go.Proofs.YtejkkhlblnepeaaGreat
end

section
set_option linter.unusedVariables false
set_option linter.unusedSimpArgs false
namespace Go.Proofs.YtejkkhlblnepeaaGreat
open Go.RowKit Oct Kvl

set_option maxRecDepth 10000 in
set_option maxHeartbeats 8000000 in
/-- The document's Do. -/
theorem refDoSG_any {GG : Nat → Prop} (w : World) (hGG : ∀ k, w.heap.size ≤ k → GG k) (v : Value) (ys : List PEnt) (h : RL RLea 3 GG w v ys) (r : List Value) (o : POp) (ho : ROp GG w r o) (who now : Int) :
    Calls Tryz.prog 29 #[v, .agg r.toArray, .int .i64 who, .int .i64 now] w (RqSG GG w (doS ys o who now)) := by
  have le := Nat.le_refl w.heap.size
  have HGG := (show Hid (∀ k, w.heap.size ≤ k → GG k) from hGG)
  clear hGG
  have hall := ho
  obtain ⟨vn, va, vb, rfl, rn, ra', rb'⟩ := ho
  obtain ⟨an, cn, rfl, hcn⟩ := rn.form
  obtain ⟨w0, hw0⟩ : ∃ w0, w0 = (w.alloc (.cells #[.int .i64 o.1, .slice an o.2.1.length cn, va, vb, .int .i64 o.2.2.2.2] 56)).alloc (.cells #[.int .i64 0, .slice none 0 0] 34) := ⟨_, rfl⟩
  have x0 : Row w0 w.heap.size 56 [.int .i64 o.1, .slice an o.2.1.length cn, va, vb, .int .i64 o.2.2.2.2] := by rw [hw0]; exact rowA (Row.new w 56 _) _
  have r0 : Row w0 (w.heap.size + 1) 34 [.int .i64 0, .slice none 0 0] := by
    rw [hw0]
    have := Row.new (w.alloc (.cells #[.int .i64 o.1, .slice an o.2.1.length cn, va, vb, .int .i64 o.2.2.2.2] 56)) 34 [.int .i64 0, .slice none 0 0]
    simpa using this
  have B0 : Below w.heap.size w w0 := by rw [hw0]; exact below_and (below_alloc _ _) (Nat.le_refl _) (below_alloc _ _)
  have hs0 : w0.heap.size = w.heap.size + 2 := by rw [hw0]; simp
  have HS0 := (show Hid (w0.heap.size = w.heap.size + 2) from hs0)
  have HRI := (show Hid (∀ u, Below w.heap.size w u → Calls Tryz.prog 37 #[v] u fun e w' => e = .returned (.bool (decide (rgtS ys))) ∧ Below u.heap.size u w') from fun u hu => refRightS_any u v ys ((h.mv mov_lea hu.size (Mv.belowG hu)).mv mov_lea (Nat.le_refl _) Mv.any))
  have HRO := (show Hid (∀ u, Below w.heap.size w u → Calls Tryz.prog 65 #[.agg #[.int .i64 o.1, .slice an o.2.1.length cn, va, vb, .int .i64 o.2.2.2.2]] u fun e w' => e = .returned (.bool (decide (wok o))) ∧ Below u.heap.size u w') from fun u hu => rightOp_any u _ o (mov_op _ _ _ _ _ _ (mov_op _ _ _ _ _ _ hall hu.size (Mv.belowG hu)) (Nat.le_refl _) Mv.any))
  have FB := (show Hid (∀ {w3 w4 : World}, Below w.heap.size w w3 → w3.grownBy w4 (some (w.heap.size + 1)) → (ys, 5, []) = doS ys o who now → RqSG GG w (doS ys o who now) (.returned (.tuple #[v, .agg #[.int .i64 5, .slice none 0 0]])) w4) from fun {w3 w4} hb hg e => by
    rw [← e]
    have b4 := hb.trans (grown_below hg hb.size (fun k hk => by cases hk; omega))
    exact ⟨_, _, rfl, h.mv mov_lea b4.size (Mv.belowG b4), RT.nil GG w4, b4⟩)
  have FIN := (show Hid (∀ {w3 w4 : World} {v3 vv : Value} {c : Int} {zs : List PEnt} {l : List Int}, LB (RSlG GG w) 84 3 w0.heap.size w3 v3 zs → RT (From w0.heap.size) w3 vv l → Below w0.heap.size w0 w3 → w3.grownBy w4 (some (w.heap.size + 1)) → (zs, c, l) = doS ys o who now → RqSG GG w (doS ys o who now) (.returned (.tuple #[v3, .agg #[.int .i64 c, vv]])) w4) from fun {w3 w4 v3 vv c zs l} hL ht hb hg e => by
    rw [← e]
    have hsz := HS0.out
    have b3 := below_and B0 le hb
    have b4 := b3.trans (grown_below hg b3.size (fun k hk => by cases hk; omega))
    exact ⟨_, _, rfl, (hL.grown (mov_rslG w) hg (by omega)).rslG b4 (fun k hk => HGG.out k (by omega)), (ht.mv (Mv.from (L := w0.heap.size) hg (by omega) (Nat.le_refl _))).mv (fun k hk _ => ⟨rfl, HGG.out k (by unfold From at hk; omega)⟩), b4⟩)
  have hform : ∃ ao cap, v = .slice ao ys.length cap ∧ ys.length ≤ maxLen := by
    by_cases hl : 0 < ys.length
    · obtain ⟨b, off, cap, e, hc, hm, _⟩ := h.at hl
      exact ⟨_, _, e, Nat.le_trans hc hm⟩
    · obtain ⟨ao, cap, e, _⟩ := h.form
      exact ⟨_, _, e, by omega⟩
  obtain ⟨ao, cap, rfl, hyl⟩ := hform
  go_enter Tryz.func29, Tryz.ntmps29
  go_upto_region 1 with fail
  rw [← hw0]
  clear hw0 hs0
  by_cases hr : rgtS ys
  rotate_left
  · rw [decide_eq_false hr] at HRI
    have HD := (show Hid ((ys, 5, []) = doS ys o who now) from (doS_bad fun h => hr h.1).symm)
    go_wp2_with (first
      | (go_at_call 37; refine (HRI.out w0 B0).mono ?_; rintro e w1 ⟨rfl, hb1⟩; have x1 := x0.below hb1; have r1 := r0.below hb1; have B1 := below_and B0 le hb1)
      | (refine wl_load_w (by rfl) _ _ rfl w.heap.size rfl _ _ x1 _ Tryz.underlying56 rfl (by kernel_rfl) ?_)
      | (go_at_call 65; refine (HRO.out w1 B1).mono ?_; rintro e w2 ⟨rfl, hb2⟩; have r2 := r1.below hb2; have c0 := (x1.below hb2).cell (j := 0) rfl)
      | (refine wl_store rfl _ _ _ rfl (w.heap.size + 1) [.int .i64 5, .slice none 0 0] rfl rfl _ _ r1 rfl (by kernel_rfl) (one_res rfl) ?_; intro w9 hr9 hg9))
    refine bodyPost_ret (results_tc rfl _ _ (w.heap.size + 1) _ _ (0, 0) _ (by rfl) hr9.out Tryz.underlying34 rfl (by kernel_rfl)) rfl ?_
    exact FB.out B1 hg9 HD.out
  rw [decide_eq_true hr] at HRI
  by_cases hw : wok o
  rotate_left
  · rw [decide_eq_false hw] at HRO
    have HD := (show Hid ((ys, 5, []) = doS ys o who now) from (doS_bad fun h => hw h.2.1.1).symm)
    go_wp2_with (first
      | (go_at_call 37; refine (HRI.out w0 B0).mono ?_; rintro e w1 ⟨rfl, hb1⟩; have x1 := x0.below hb1; have r1 := r0.below hb1; have B1 := below_and B0 le hb1)
      | (refine wl_load_w (by rfl) _ _ rfl w.heap.size rfl _ _ x1 _ Tryz.underlying56 rfl (by kernel_rfl) ?_)
      | (go_at_call 65; refine (HRO.out w1 B1).mono ?_; rintro e w2 ⟨rfl, hb2⟩; have r2 := r1.below hb2; have c0 := (x1.below hb2).cell (j := 0) rfl)
      | (refine wl_store rfl _ _ _ rfl (w.heap.size + 1) [.int .i64 5, .slice none 0 0] rfl rfl _ _ r2 rfl (by kernel_rfl) (one_res rfl) ?_; intro w9 hr9 hg9))
    refine bodyPost_ret (results_tc rfl _ _ (w.heap.size + 1) _ _ (0, 0) _ (by rfl) hr9.out Tryz.underlying34 rfl (by kernel_rfl)) rfl ?_
    exact FB.out (below_and B1 le hb2) hg9 HD.out
  rw [decide_eq_true hw] at HRO
  by_cases g1 : o.1 < 5
  · have HD := (show Hid ((ys, 5, []) = doS ys o who now) from (doS_bad fun h => by have := h.2.1.2; omega).symm)
    go_wp2_with (first
      | (go_at_call 37; refine (HRI.out w0 B0).mono ?_; rintro e w1 ⟨rfl, hb1⟩; have x1 := x0.below hb1; have r1 := r0.below hb1; have B1 := below_and B0 le hb1)
      | (refine wl_load_w (by rfl) _ _ rfl w.heap.size rfl _ _ x1 _ Tryz.underlying56 rfl (by kernel_rfl) ?_)
      | (go_at_call 65; refine (HRO.out w1 B1).mono ?_; rintro e w2 ⟨rfl, hb2⟩; have r2 := r1.below hb2; have c0 := (x1.below hb2).cell (j := 0) rfl)
      | (refine wl_store rfl _ _ _ rfl (w.heap.size + 1) [.int .i64 5, .slice none 0 0] rfl rfl _ _ r2 rfl (by kernel_rfl) (one_res rfl) ?_; intro w9 hr9 hg9))
    refine bodyPost_ret (results_tc rfl _ _ (w.heap.size + 1) _ _ (0, 0) _ (by rfl) hr9.out Tryz.underlying34 rfl (by kernel_rfl)) rfl ?_
    exact FB.out (below_and B1 le hb2) hg9 HD.out
  have g1' : decide (o.1 < 5) = false := by simp; omega
  by_cases g2 : who < 1
  · have HD := (show Hid ((ys, 5, []) = doS ys o who now) from (doS_bad fun h => by have := h.2.2.1.1; omega).symm)
    go_wp2_with (first
      | (go_at_call 37; refine (HRI.out w0 B0).mono ?_; rintro e w1 ⟨rfl, hb1⟩; have x1 := x0.below hb1; have r1 := r0.below hb1; have B1 := below_and B0 le hb1)
      | (refine wl_load_w (by rfl) _ _ rfl w.heap.size rfl _ _ x1 _ Tryz.underlying56 rfl (by kernel_rfl) ?_)
      | (go_at_call 65; refine (HRO.out w1 B1).mono ?_; rintro e w2 ⟨rfl, hb2⟩; have r2 := r1.below hb2; have c0 := (x1.below hb2).cell (j := 0) rfl)
      | (refine wl_store rfl _ _ _ rfl (w.heap.size + 1) [.int .i64 5, .slice none 0 0] rfl rfl _ _ r2 rfl (by kernel_rfl) (one_res rfl) ?_; intro w9 hr9 hg9))
    refine bodyPost_ret (results_tc rfl _ _ (w.heap.size + 1) _ _ (0, 0) _ (by rfl) hr9.out Tryz.underlying34 rfl (by kernel_rfl)) rfl ?_
    exact FB.out (below_and B1 le hb2) hg9 HD.out
  have g2' : decide (who < 1) = false := by simp; omega
  by_cases g3 : 4 < who
  · have HD := (show Hid ((ys, 5, []) = doS ys o who now) from (doS_bad fun h => by have := h.2.2.1.2; omega).symm)
    go_wp2_with (first
      | (go_at_call 37; refine (HRI.out w0 B0).mono ?_; rintro e w1 ⟨rfl, hb1⟩; have x1 := x0.below hb1; have r1 := r0.below hb1; have B1 := below_and B0 le hb1)
      | (refine wl_load_w (by rfl) _ _ rfl w.heap.size rfl _ _ x1 _ Tryz.underlying56 rfl (by kernel_rfl) ?_)
      | (go_at_call 65; refine (HRO.out w1 B1).mono ?_; rintro e w2 ⟨rfl, hb2⟩; have r2 := r1.below hb2; have c0 := (x1.below hb2).cell (j := 0) rfl)
      | (refine wl_store rfl _ _ _ rfl (w.heap.size + 1) [.int .i64 5, .slice none 0 0] rfl rfl _ _ r2 rfl (by kernel_rfl) (one_res rfl) ?_; intro w9 hr9 hg9))
    refine bodyPost_ret (results_tc rfl _ _ (w.heap.size + 1) _ _ (0, 0) _ (by rfl) hr9.out Tryz.underlying34 rfl (by kernel_rfl)) rfl ?_
    exact FB.out (below_and B1 le hb2) hg9 HD.out
  have g3' : decide (4 < who) = false := by simp; omega
  by_cases g4 : now < 0
  · have HD := (show Hid ((ys, 5, []) = doS ys o who now) from (doS_bad fun h => by have := h.2.2.2.1; omega).symm)
    go_wp2_with (first
      | (go_at_call 37; refine (HRI.out w0 B0).mono ?_; rintro e w1 ⟨rfl, hb1⟩; have x1 := x0.below hb1; have r1 := r0.below hb1; have B1 := below_and B0 le hb1)
      | (refine wl_load_w (by rfl) _ _ rfl w.heap.size rfl _ _ x1 _ Tryz.underlying56 rfl (by kernel_rfl) ?_)
      | (go_at_call 65; refine (HRO.out w1 B1).mono ?_; rintro e w2 ⟨rfl, hb2⟩; have r2 := r1.below hb2; have c0 := (x1.below hb2).cell (j := 0) rfl)
      | (refine wl_store rfl _ _ _ rfl (w.heap.size + 1) [.int .i64 5, .slice none 0 0] rfl rfl _ _ r2 rfl (by kernel_rfl) (one_res rfl) ?_; intro w9 hr9 hg9))
    refine bodyPost_ret (results_tc rfl _ _ (w.heap.size + 1) _ _ (0, 0) _ (by rfl) hr9.out Tryz.underlying34 rfl (by kernel_rfl)) rfl ?_
    exact FB.out (below_and B1 le hb2) hg9 HD.out
  have g4' : decide (now < 0) = false := by simp; omega
  by_cases g5 : 2147482647 < now
  · have HD := (show Hid ((ys, 5, []) = doS ys o who now) from (doS_bad fun h => by have := h.2.2.2.2; omega).symm)
    go_wp2_with (first
      | (go_at_call 37; refine (HRI.out w0 B0).mono ?_; rintro e w1 ⟨rfl, hb1⟩; have x1 := x0.below hb1; have r1 := r0.below hb1; have B1 := below_and B0 le hb1)
      | (refine wl_load_w (by rfl) _ _ rfl w.heap.size rfl _ _ x1 _ Tryz.underlying56 rfl (by kernel_rfl) ?_)
      | (go_at_call 65; refine (HRO.out w1 B1).mono ?_; rintro e w2 ⟨rfl, hb2⟩; have r2 := r1.below hb2; have c0 := (x1.below hb2).cell (j := 0) rfl)
      | (refine wl_store rfl _ _ _ rfl (w.heap.size + 1) [.int .i64 5, .slice none 0 0] rfl rfl _ _ r2 rfl (by kernel_rfl) (one_res rfl) ?_; intro w9 hr9 hg9))
    refine bodyPost_ret (results_tc rfl _ _ (w.heap.size + 1) _ _ (0, 0) _ (by rfl) hr9.out Tryz.underlying34 rfl (by kernel_rfl)) rfl ?_
    exact FB.out (below_and B1 le hb2) hg9 HD.out
  have g5' : decide (2147482647 < now) = false := by simp; omega
  have HK := (show Hid (doS ys o who now = doT (liv now ys) o who now) from doS_yes ⟨hr, ⟨hw, by omega⟩, ⟨by omega, by omega⟩, ⟨by omega, by omega⟩⟩)
  have HRG := (show Hid (rgtS (liv now ys)) from liv_rgt hr)
  have HLU := (show Hid (∀ e ∈ liv now ys, now < lu e.2) from fun e he => (liv_mem he).2)
  have HNU := (show Hid (o.1 ≠ 7 → o.1 ≠ 8 → 1 ≤ o.2.2.2.2 ∧ o.2.2.2.2 ≤ 1000) from fun h7 h8 => num_yes hw (by omega) h7 h8)
  have hy16 : ys.length ≤ 16 := hr.1
  have h8' : o.1 ≤ 8 := hw.1.2
  clear hr hw
  go_upto_region 3 with (first
      | (go_at_call 37; refine (HRI.out w0 B0).mono ?_; rintro e w1 ⟨rfl, hb1⟩; have x1 := x0.below hb1; have r1 := r0.below hb1; have B1 := below_and B0 le hb1)
      | (refine wl_load_w (by rfl) _ _ rfl w.heap.size rfl _ _ x1 _ Tryz.underlying56 rfl (by kernel_rfl) ?_)
      | (go_at_call 65; refine (HRO.out w1 B1).mono ?_; rintro e w2 ⟨rfl, hb2⟩; have r2 := r1.below hb2; have c0 := (x1.below hb2).cell (j := 0) rfl))
  have BB2 := below_and hb1 (Nat.le_refl _) hb2
  clear HRI HRO FB hb1 hb2 x1 r1 B1 r2 c0 g1' g2' g3' g4' g5'
  obtain ⟨w4, hw4⟩ : ∃ w4, w4 = (w2.alloc (.cells #[] 84)).alloc (.cells #[] 84) := ⟨_, rfl⟩
  have BB4 : Below w0.heap.size w0 w4 := by rw [hw4]; exact below_and (below_and BB2 (Nat.le_refl _) (below_alloc _ _)) (Nat.le_refl _) (below_alloc _ _)
  have hLa : LB (RSlG GG w) 84 3 w0.heap.size w4 (.slice (some ⟨w2.heap.size, 0, none⟩) 0 0) [] := by
    rw [hw4]
    exact (LB.fresh (RSlG GG w) 84 3 w0.heap.size w2 BB2.size).below (mov_rslG w) (below_alloc _ _)
  have hLb : LB (RSlG GG w) 84 3 w0.heap.size w4 (.slice (some ⟨w2.heap.size + 1, 0, none⟩) 0 0) [] := by
    rw [hw4]
    have := LB.fresh (RSlG GG w) 84 3 w0.heap.size (w2.alloc (.cells #[] 84)) (Nat.le_trans BB2.size (below_alloc _ _).size)
    simpa using this
  go_upto_region 5 with fail
  rw [← hw4]
  clear hw4
  have HX := (show Hid (0 < ys.length → ∃ b off, ao = some ⟨b, off, none⟩ ∧ b < w.heap.size ∧ ∀ (i : Nat) (a : PEnt), ys[i]? = some a → ∃ s p q, w.rangeAt b (off + i * 3) [s, .int .i64 p, .int .i64 q] ∧ RT GG w s a.1 ∧ a.2 = [p, q]) from fun hl => by
    obtain ⟨b, off, cap', e, hc, hm, _, hb, hx⟩ := h.at hl
    injection e with e1 e2 e3
    refine ⟨b, off, e1, hb, fun i a ha => ?_⟩
    obtain ⟨r, _, hrng, s, p, q, rfl, t1, t2⟩ := hx i a ha
    exact ⟨s, p, q, hrng, t1, t2⟩)
  have HS := (show Hid (∀ (u : World) (s : Value) (l : List Int), Below w.heap.size w u → RT GG w s l → Calls Tryz.prog 40 #[s, .slice an o.2.1.length cn] u fun e w' => e = .returned (.bool (decide (l = o.2.1))) ∧ w' = u) from fun u s l hu hs => same_any u _ _ _ _ (hs.mv (Mv.belowG hu)).1 (rn.mv (Mv.belowG hu)).1)
  have HRN := (show Hid (RT GG w (.slice an o.2.1.length cn) o.2.1) from rn)
  obtain ⟨N, hN⟩ : ∃ N, N = ys.length := ⟨_, rfl⟩
  rw [← hN] at HX hy16 ⊢
  have HN := (show Hid (ys.length = N) from hN.symm)
  clear hN hyl h hall rn ra' rb'
  go_wp2_with fail
  go_loopw [10, 11, 51] (fun a b i wr => ∃ q : Nat, q ≤ N ∧ i = .int .i64 q ∧ LB (RSlG GG w) 84 3 w0.heap.size wr a (liv now (ys.take q)) ∧ LB (RSlG GG w) 84 3 w0.heap.size wr b (oth o.2.1 (liv now (ys.take q))) ∧ (∀ g, a.ownBlock = some g → b.ownBlock ≠ some g) ∧ Below w0.heap.size w0 wr) (fun _ _ i _ => N - (intOf i).toNat)
  case atStart => exact ⟨0, Nat.zero_le _, rfl, hLa, hLb, (fun g hg e => by simp [Value.ownBlock] at hg e; omega), BB4⟩
  case round =>
    clear hLa hLb BB4 BB2
    obtain ⟨q, hq, rfl, hA, hBL, hap, hB0⟩ := hrel
    have hB := below_and B0 le hB0
    by_cases hql : q < N
    · obtain ⟨x, hx⟩ : ∃ x, ys[q]? = some x := ⟨_, List.getElem?_eq_getElem (by have := HN.out; omega)⟩
      obtain ⟨bb, off, rfl, hbb, hxx⟩ := HX.out (by omega)
      obtain ⟨s1, p1, q1, hrng, t1, t2⟩ := hxx q x hx
      have hrng := rangeAt_block hrng (hB.block bb hbb)
      obtain ⟨a1, c1, rfl, hc1⟩ := t1.form
      have hrow0 := Row.new wr 84 [.slice none 0 0, .int .i64 0, .int .i64 0]
      have HXE := (show Hid (RLea GG w [.slice a1 x.1.length c1, .int .i64 p1, .int .i64 q1] x) from ⟨_, _, _, rfl, t1, t2⟩)
      have HT1 := (show Hid (RT GG w (.slice a1 x.1.length c1) x.1) from t1)
      have HLS := (show Hid (liv now (ys.take (q + 1)) = liv now (ys.take q) ++ (if now < q1 then [x] else [])) by
        show _ = _
        rw [liv_snoc hx, show lu x.2 = q1 by rw [t2]; rfl])
      have hone := onL3 (p := p1) (q := q1) t1.one
      have hll : (liv now (ys.take q)).length ≤ 16 := by have := @liv_len now (ys.take q); rw [List.length_take] at this; omega
      have hol : (oth o.2.1 (liv now (ys.take q))).length ≤ 16 := Nat.le_trans (List.length_filter_le _ _) hll
      clear t1 t2 hx hxx
      generalize liv now (ys.take q) = LQ at *
      obtain ⟨L1, hL1⟩ : ∃ L, x.1.length = L := ⟨_, rfl⟩
      rw [hL1] at hrng hone HXE HT1
      clear hL1
      go_upto_region 8 with (first
        | (refine wpList_load_mid rfl _ _ rfl bb (off + q * 3) rfl [.slice a1 L1 c1, .int .i64 p1, .int .i64 q1] _ hrng Tryz.underlying84 rfl (by kernel_rfl) ?_)
        | (refine wl_store rfl _ _ _ rfl wr.heap.size [.slice a1 L1 c1, .int .i64 p1, .int .i64 q1] rfl rfl _ _ hrow0 rfl (by kernel_rfl) hone ?_; intro w5 hr5 hg5))
      have hb5 : Below wr.heap.size wr w5 := (below_alloc wr (.cells ([.slice none 0 0, .int .i64 0, .int .i64 0] : List Value).toArray 84)).trans (grown_below hg5 (by simp) (fun k hk => by cases hk; exact Nat.le_refl _))
      have B5 : Below w0.heap.size w0 w5 := below_and hB0 (Nat.le_refl _) hb5
      have hr5 := hr5.out
      have hA5 := hA.below (mov_rslG w) hb5
      have hBL5 := hBL.below (mov_rslG w) hb5
      have hltA : ∀ g, u10.ownBlock = some g → g < wr.heap.size := hA.lt
      have hltB : ∀ g, u11.ownBlock = some g → g < wr.heap.size := hBL.lt
      have hfrA : ∀ g, u10.ownBlock = some g → w0.heap.size ≤ g := hA.fr
      have hfrB : ∀ g, u11.ownBlock = some g → w0.heap.size ≤ g := hBL.fr
      have hs5 : wr.heap.size < w5.heap.size := hr5.lt
      have e2 := hr5.cell (j := 2) rfl
      clear hg5 hrow0 hrng hone hb5 hA hBL
      by_cases hov : q1 ≤ now
      · have HE := (show Hid (liv now (ys.take (q + 1)) = LQ) by show _ = _; rw [HLS.out, if_neg (by omega), List.append_nil])
        go_wp2_with fail
        go_roundw
        case rel => exact ⟨q + 1, by omega, by go_num, by rw [HE.out]; exact hA5, by rw [HE.out]; exact hBL5, hap, B5⟩
        case measure => simp [intOf]; omega
      have hov' : decide (q1 ≤ now) = false := by simp; omega
      have HE := (show Hid (liv now (ys.take (q + 1)) = LQ ++ [x]) by show _ = _; rw [HLS.out, if_pos (by omega)])
      go_upto_region 10 with (first
        | (refine wl_load rfl _ _ rfl wr.heap.size rfl _ _ hr5 _ Tryz.underlying84 rfl (by kernel_rfl) ?_)
        | (at_builtin; refine wl_push2 (mov_rslG w) rfl _ _ _ rfl 84 3 40 _ Tryz.underlying23 Tryz.infL rfl (by decide) w0.heap.size u10 LQ rfl hA5 [.slice a1 L1 c1, .int .i64 p1, .int .i64 q1] x w5.heap.size (RSlG.of HXE.out _ _) rfl (one_RS HXE.out) B5.size (fun g hg => Nat.lt_trans (hltA g hg) hs5) rfl B5.size (by omega) (by decide) ?_; intro v6 w6 hA6 hg6 hsp6))
      have B6 : Below w0.heap.size w0 w6 := B5.trans (grown_below hg6 B5.size (fun k hk => hfrA k hk))
      have W6 := below_and B0 le B6
      have hr6 := hr5.grown hg6 (fun e => by have := hltA _ e; omega)
      have hBL6 := hBL5.keptSG hg6 hap
      have hap6 : ∀ g, v6.ownBlock = some g → u11.ownBlock ≠ some g := fun g hg => by
        rcases hsp6 with e | e
        · rw [e] at hg; exact hap g hg
        · intro e2; have := e g hg; have := hltB g e2; omega
      have x6 := x0.below B6
      have f0 := hr6.cell (j := 0) rfl
      have f1 := x6.cell (j := 1) rfl
      have hs6 : wr.heap.size < w6.heap.size := hr6.lt
      have HS6 := HS.out w6 _ x.1 W6 HT1.out
      clear hg6 hsp6 hA5 hBL5 e2
      by_cases heq : x.1 = o.2.1
      · rw [decide_eq_true heq] at HS6
        have HO := (show Hid (oth o.2.1 (liv now (ys.take (q + 1))) = oth o.2.1 LQ) by show _ = _; rw [HE.out, oth_snoc, if_pos heq, List.append_nil])
        clear heq
        go_wp2_with (go_at_call 40; refine HS6.mono ?_; rintro e w6 ⟨rfl, rfl⟩)
        go_roundw
        case rel => exact ⟨q + 1, by omega, by go_num, by rw [HE.out]; exact hA6, by rw [HO.out]; exact hBL6, hap6, B6⟩
        case measure => simp [intOf]; omega
      · rw [decide_eq_false heq] at HS6
        have HO := (show Hid (oth o.2.1 (liv now (ys.take (q + 1))) = oth o.2.1 LQ ++ [x]) by show _ = _; rw [HE.out, oth_snoc, if_neg heq])
        clear heq
        generalize oth o.2.1 LQ = OQ at *
        go_wp2_with (first
          | (go_at_call 40; refine HS6.mono ?_; rintro e w6 ⟨rfl, rfl⟩)
          | (refine wl_load rfl _ _ rfl wr.heap.size rfl _ _ hr6 _ Tryz.underlying84 rfl (by kernel_rfl) ?_)
          | (at_builtin; refine wl_push2 (mov_rslG w) rfl _ _ _ rfl 84 3 40 _ Tryz.underlying23 Tryz.infL rfl (by decide) w0.heap.size u11 OQ rfl hBL6 [.slice a1 L1 c1, .int .i64 p1, .int .i64 q1] x w6.heap.size (RSlG.of HXE.out _ _) rfl (one_RS HXE.out) B6.size (fun g hg => Nat.lt_trans (hltB g hg) hs6) rfl B6.size (by omega) (by decide) ?_; intro v8 w8 hBL8 hg8 hsp8))
        have B8 : Below w0.heap.size w0 w8 := B6.trans (grown_below hg8 B6.size (fun k hk => hfrB k hk))
        have hlt6 : ∀ g, v6.ownBlock = some g → g < w6.heap.size := hA6.lt
        have hA8 := hA6.keptSG hg8 (fun g hg e => hap6 g e hg)
        have hap8 : ∀ g, v6.ownBlock = some g → v8.ownBlock ≠ some g := fun g hg => by
          rcases hsp8 with e | e
          · rw [e]; exact hap6 g hg
          · intro e2; have := e g e2; have := hlt6 g hg; omega
        go_roundw
        case rel => exact ⟨q + 1, by omega, by go_num, by rw [HE.out]; exact hA8, by rw [HO.out]; exact hBL8, hap8, B8⟩
        case measure => simp [intOf]; omega
    · obtain rfl : q = N := by omega
      have hqd : decide ((q : Int) < q) = false := by simp
      have hty : ys.take q = ys := List.take_of_length_le (by have := HN.out; omega)
      rw [hty] at hA hBL
      clear hty
      generalize liv now ys = L at *
      have hRL := (hA.rslG hB (fun k hk => HGG.out k (by have := HS0.out; omega))).mv mov_lea (Nat.le_refl _) Mv.any
      have hH := refHolder_any _ u10 L hRL _ _ (HRN.out.mv (Mv.belowG hB)).1 now
      have hup := HRG.out.2.1
      have hgs : holS L o.2.1 now = getS o.2.1 now L := by rw [hol_get hup, liv_all HLU.out]; rfl
      obtain ⟨ax, cx, rfl, _⟩ := hRL.form
      have c1 := (x0.below hB0).cell (j := 1) rfl
      have hL16 : L.length ≤ 16 := HRG.out.1
      rw [hgs] at hH
      have HUP := (show Hid (up [] L) from hup)
      have HFI := (show Hid (∀ (u : World) (hu : Below w0.heap.size w0 u) (v3 : Value) (n : List Int) (vn : Value) (np nq' : Int), LB (RSlG GG w) 84 3 w0.heap.size u v3 L → RT GG w vn n → Calls Tryz.prog 70 #[v3, .agg #[vn, .int .i64 np, .int .i64 nq']] u fun e w' => ∃ v', e = .returned v' ∧ LB (RSlG GG w) 84 3 w0.heap.size w' v' (putR n [np, nq'] L) ∧ Below u.heap.size u w') from fun u hu v3 n vn np nq' h1 h2 => by
        have := refWithSG_any w u (below_and B0 le hu) w0.heap.size v3 L h1 (by omega) vn n np nq' h2
        rw [wiS_put HUP.out] at this
        exact this.mono fun e w' ⟨v', e1, e2, e3⟩ => ⟨v', e1, e2.weak (mov_rslG w) hu.size, e3⟩)
      clear hgs hup hRL hap
      unfold getS at hH
      cases hg : getR o.2.1 L with
      | none =>
        rw [hg] at hH
        have HGN := (show Hid (getR o.2.1 L = none) from hg)
        clear hg
        go_upto_region 14 with (go_at_call 68; refine hH.mono ?_; rintro e w7 ⟨rfl, hb7⟩)
        have B7 := below_and hB0 (Nat.le_refl _) hb7
        have x7 := x0.below B7
        have r7 := r0.below B7
        have hA7 := hA.below (mov_rslG w) hb7
        have d0 := x7.cell (j := 0) rfl
        have d1 := x7.cell (j := 1) rfl
        have d4 := x7.cell (j := 4) rfl
        clear hH c1
        by_cases k5 : o.1 = 5
        rotate_left
        · have HD := (show Hid ((L, 1, []) = doS ys o who now) by show _ = _; rw [HK.out]; exact doT_miss HGN.out k5)
          have k5' : (o.1 != 5) = true := by simp [k5]
          clear k5
          go_wp2_with (first | (refine wl_store rfl _ _ _ rfl (w.heap.size + 1) [.int .i64 1, .slice none 0 0] rfl rfl _ _ r7 rfl (by kernel_rfl) (one_res rfl) ?_; intro w9 hr9 hg9))
          refine bodyPost_ret (results_tc rfl _ _ (w.heap.size + 1) _ _ (0, 0) _ (by rfl) hr9.out Tryz.underlying34 rfl (by kernel_rfl)) rfl ?_
          exact FIN.out hA7 (RT.nil _ _) B7 hg9 HD.out
        have k5' : (o.1 != 5) = false := by simp [k5]
        have k8' : (o.1 == 8) = false := by rw [k5]; rfl
        have k7' : (o.1 == 7) = false := by rw [k5]; rfl
        have HADD := (show Hid (addS L (pos o.2.1 L) (o.2.1, [who, now + o.2.2.2.2]) = doS ys o who now) by show _ = _; rw [HK.out]; exact doT_new HGN.out k5)
        by_cases l16 : L.length = 16
        · have HD := (show Hid ((L, 3, []) = doS ys o who now) by show _ = _; rw [← HADD.out, addS, if_pos (by omega)])
          have l16' : ((L.length : Int) == 16) = true := by simp [l16]
          clear l16 k5
          go_wp2_with (first | (refine wl_store rfl _ _ _ rfl (w.heap.size + 1) [.int .i64 3, .slice none 0 0] rfl rfl _ _ r7 rfl (by kernel_rfl) (one_res rfl) ?_; intro w9 hr9 hg9))
          refine bodyPost_ret (results_tc rfl _ _ (w.heap.size + 1) _ _ (0, 0) _ (by rfl) hr9.out Tryz.underlying34 rfl (by kernel_rfl)) rfl ?_
          exact FIN.out hA7 (RT.nil _ _) B7 hg9 HD.out
        have HD := (show Hid ((putR o.2.1 [who, now + o.2.2.2.2] L, 0, []) = doS ys o who now) by show _ = _; rw [← HADD.out, addS, if_neg (by omega), insL, put_new HGN.out])
        have l16' : ((L.length : Int) == 16) = false := by simp; omega
        obtain ⟨hn1, hn2⟩ := HNU.out (by omega) (by omega)
        have HW := HFI.out w7 B7 _ o.2.1 _ who (now + o.2.2.2.2) hA7 HRN.out
        clear l16 k5
        go_wp2_with (first
          | (go_at_call 70; refine HW.mono ?_; rintro e w8 ⟨v8, rfl, hL8, hb8⟩; have r8 := r7.below hb8)
          | (refine wl_store rfl _ _ _ rfl (w.heap.size + 1) [.int .i64 0, .slice none 0 0] rfl rfl _ _ r8 rfl (by kernel_rfl) (one_res rfl) ?_; intro w9 hr9 hg9))
        refine bodyPost_ret (results_tc rfl _ _ (w.heap.size + 1) _ _ (0, 0) _ (by rfl) hr9.out Tryz.underlying34 rfl (by kernel_rfl)) rfl ?_
        exact FIN.out hL8 (RT.nil _ _) (below_and B7 (Nat.le_refl _) hb8) hg9 HD.out
      | some u =>
        rw [hg] at hH
        have hat := get_some hg
        have HGN := (show Hid (getR o.2.1 L = some u) from hg)
        have hmem := List.mem_of_getElem? hat
        have hrg := HRG.out.2.2 _ hmem
        have hlu : now < lu u := HLU.out _ hmem
        have hp1 : 1 ≤ lo u ∧ lo u ≤ 4 := hrg.2.1
        have hq1 : 1 ≤ lu u ∧ lu u ≤ 2147483647 := hrg.2.2
        obtain ⟨p1, p2⟩ := hp1
        obtain ⟨q1, q2⟩ := hq1
        have hH : Calls Tryz.prog 68 #[.slice ax L.length cx, .slice an o.2.1.length cn, .int .i64 now] wr fun e w' => e = .returned (.tuple #[.int .i64 (lo u), .int .i64 (lu u - now)]) ∧ Below wr.heap.size wr w' := by
          have : Calls Tryz.prog 68 #[.slice ax L.length cx, .slice an o.2.1.length cn, .int .i64 now] wr fun e w' => e = .returned (.tuple #[.int .i64 (lo u), .int .i64 (IntKind.i64.wrap (lu u - now))]) ∧ Below wr.heap.size wr w' := hH
          rw [show IntKind.i64.wrap (lu u - now) = lu u - now from wrapN (by omega) (by omega)] at this
          exact this
        have HTO := (show Hid (∀ z : World, Below w0.heap.size w0 z → Calls Tryz.prog 69 #[.int .i64 (lo u), .int .i64 (lu u - now)] z fun e w' => ∃ ax' cx', e = .returned (.slice ax' (tol u now).length cx') ∧ RT (From w0.heap.size) w' (.slice ax' (tol u now).length cx') (tol u now) ∧ Below z.heap.size z w') from fun z hz => (refTold_any z (lo u) (lu u - now) (by omega) (by omega) (by omega) (by omega)).mono fun e w' ⟨v', e1, e2, e3⟩ => by
          have e2' : RT (From z.heap.size) w' v' (tol u now) := e2
          obtain ⟨ax', cx', rfl, _⟩ := e2'.form
          exact ⟨ax', cx', e1, e2'.mv (Mv.weak hz.size), e3⟩)
        clear hg hat hmem hrg
        go_upto_region 14 with (go_at_call 68; refine hH.mono ?_; rintro e w7 ⟨rfl, hb7⟩)
        have B7 := below_and hB0 (Nat.le_refl _) hb7
        have x7 := x0.below B7
        have r7 := r0.below B7
        have hA7 := hA.below (mov_rslG w) hb7
        have hBL7 := hBL.below (mov_rslG w) hb7
        have d0 := x7.cell (j := 0) rfl
        have d1 := x7.cell (j := 1) rfl
        have d4 := x7.cell (j := 4) rfl
        have HT7 := HTO.out w7 B7
        have o0 : (lo u == 0) = false := by simp; omega
        have o0' : (lo u != 0) = true := by simp; omega
        have HLO := (show Hid (∀ x : Int, x = lo u → x = lo u) from fun _ e => e)
        clear hH c1 HTO
        generalize hTL : tol u now = TL at *
        have HTL := (show Hid (tol u now = TL) from hTL)
        clear hTL
        by_cases k8 : o.1 = 8
        · have HD := (show Hid ((L, 0, TL) = doS ys o who now) by show _ = _; rw [HK.out, ← HTL.out]; exact doT_hold HGN.out k8)
          have k8' : (o.1 == 8) = true := by simp [k8]
          clear k8
          go_wp2_with (first
            | (go_at_call 69; refine HT7.mono ?_; rintro e w8 ⟨ax8, cx8, rfl, t8, hb8⟩; have r8 := r7.below hb8)
            | (refine wl_store rfl _ _ _ rfl (w.heap.size + 1) [.int .i64 0, .slice ax8 TL.length cx8] rfl rfl _ _ r8 rfl (by kernel_rfl) (one_res rfl) ?_; intro w9 hr9 hg9))
          refine bodyPost_ret (results_tc rfl _ _ (w.heap.size + 1) _ _ (0, 0) _ (by rfl) hr9.out Tryz.underlying34 rfl (by kernel_rfl)) rfl ?_
          exact FIN.out (hA7.below (mov_rslG w) hb8) t8 (below_and B7 (Nat.le_refl _) hb8) hg9 HD.out
        have k8' : (o.1 == 8) = false := by simp [k8]
        by_cases kw : lo u = who
        rotate_left
        · have HD := (show Hid ((L, 4, TL) = doS ys o who now) by show _ = _; rw [HK.out, ← HTL.out]; exact doT_held HGN.out k8 kw)
          have kw' : (lo u != who) = true := by simp [kw]
          clear k8 kw
          go_wp2_with (first
            | (go_at_call 69; refine HT7.mono ?_; rintro e w8 ⟨ax8, cx8, rfl, t8, hb8⟩; have r8 := r7.below hb8)
            | (refine wl_store rfl _ _ _ rfl (w.heap.size + 1) [.int .i64 4, .slice ax8 TL.length cx8] rfl rfl _ _ r8 rfl (by kernel_rfl) (one_res rfl) ?_; intro w9 hr9 hg9))
          refine bodyPost_ret (results_tc rfl _ _ (w.heap.size + 1) _ _ (0, 0) _ (by rfl) hr9.out Tryz.underlying34 rfl (by kernel_rfl)) rfl ?_
          exact FIN.out (hA7.below (mov_rslG w) hb8) t8 (below_and B7 (Nat.le_refl _) hb8) hg9 HD.out
        have kw' : (lo u != who) = false := by simp [kw]
        by_cases k7 : o.1 = 7
        · have HD := (show Hid ((oth o.2.1 L, 0, []) = doS ys o who now) by show _ = _; rw [HK.out, ← doT_del HGN.out k8 kw k7, oth_del HUP.out, del_old HGN.out])
          have k7' : (o.1 == 7) = true := by simp [k7]
          clear k8 kw k7
          go_wp2_with (first | (refine wl_store rfl _ _ _ rfl (w.heap.size + 1) [.int .i64 0, .slice none 0 0] rfl rfl _ _ r7 rfl (by kernel_rfl) (one_res rfl) ?_; intro w9 hr9 hg9))
          refine bodyPost_ret (results_tc rfl _ _ (w.heap.size + 1) _ _ (0, 0) _ (by rfl) hr9.out Tryz.underlying34 rfl (by kernel_rfl)) rfl ?_
          exact FIN.out hBL7 (RT.nil _ _) B7 hg9 HD.out
        have k7' : (o.1 == 7) = false := by simp [k7]
        have HD := (show Hid ((putR o.2.1 [who, now + o.2.2.2.2] L, 0, []) = doS ys o who now) by show _ = _; rw [HK.out, ← doT_set HGN.out k8 kw k7, put_old HGN.out])
        obtain ⟨hn1, hn2⟩ := HNU.out k7 k8
        have HW := HFI.out w7 B7 _ o.2.1 _ who (now + o.2.2.2.2) hA7 HRN.out
        clear k8 kw k7
        go_wp2_with (first
          | (go_at_call 70; refine HW.mono ?_; rintro e w8 ⟨v8, rfl, hL8, hb8⟩; have r8 := r7.below hb8)
          | (refine wl_store rfl _ _ _ rfl (w.heap.size + 1) [.int .i64 0, .slice none 0 0] rfl rfl _ _ r8 rfl (by kernel_rfl) (one_res rfl) ?_; intro w9 hr9 hg9))
        refine bodyPost_ret (results_tc rfl _ _ (w.heap.size + 1) _ _ (0, 0) _ (by rfl) hr9.out Tryz.underlying34 rfl (by kernel_rfl)) rfl ?_
        exact FIN.out hL8 (RT.nil _ _) (below_and B7 (Nat.le_refl _) hb8) hg9 HD.out
end Go.Proofs.YtejkkhlblnepeaaGreat
end
