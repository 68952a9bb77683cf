/- The document's With. -/
import Derived.Test.YtbnioibeckifbaaKw
set_option linter.unusedVariables false
set_option linter.unusedSimpArgs false
namespace Go.Proofs.Ytbnioibeckifbaa
open Go.RowKit Oct Kvl

/-- Entries whose texts lie in memory that was there in w0. -/
def RS (w0 : World) (G : Nat → Prop) (w : World) (r : List Value) (x : PEnt) : Prop := ∀ u, Below w0.heap.size w0 u → REnt Any u r x
theorem mov_rs (w0 : World) : Mov (RS w0) := fun _ _ _ _ _ _ h _ _ => h
theorem RS.of {w0 : World} {r : List Value} {x : PEnt} (h : REnt Any w0 r x) (G : Nat → Prop) (w : World) : RS w0 G w r x := fun u hu => mov_ent _ _ _ _ _ _ h hu.size (Mv.below hu)
theorem LB.rs {w0 w : World} {B : Nat} {v : Value} {zs : List PEnt} (h : LB (RS w0) 37 2 B w v zs) (hb : Below w0.heap.size w0 w) : RL REnt 2 Any w v zs := by
  obtain ⟨rows, h1, h2⟩ := (h.rl (mov_rs w0)).mv (mov_rs w0) (Nat.le_refl _) (Mv.any (w := w))
  exact ⟨rows, h1, h2.mono fun r a h => h w hb⟩
theorem LB.grownS {w0 w w' : World} {v : Value} {zs : List PEnt} {B b : Nat} (h : LB (RS w0) 37 2 B w v zs) (hg : w.grownBy w' (some b)) (hn : v.ownBlock ≠ some b) : LB (RS w0) 37 2 B w' v zs := by
  obtain ⟨rows, h0, h1, h2, h3⟩ := h
  exact ⟨rows, h0, World.ownsRow.kept h1 hg (.inr hn), h2, h3⟩
theorem one_E {w : World} {r : List Value} {x : PEnt} (h : REnt Any w r x) : ∀ u ∈ r, u.oneCell' = true := one_RE h

set_option maxRecDepth 10000 in
set_option maxHeartbeats 8000000 in
theorem refWith_some (w00 w : World) (h00 : Below w00.heap.size w00 w) (bb off cap : Nat) (ys : List PEnt) (hl : 0 < ys.length) (h64 : ys.length ≤ 64) (hc : ys.length ≤ cap) (hm : cap ≤ maxLen) (hbb : bb < w.heap.size)
    (hx : ∀ (i : Nat) (a : PEnt), ys[i]? = some a → ∃ r, r.length = 2 ∧ w.rangeAt bb (off + i * 2) r ∧ REnt Any w00 r a) (nv vv : Value) (n v : List Int) (hn : RT Any w00 nv n) (hv : RT Any w00 vv v) :
    Calls Try.prog 34 #[.slice (some ⟨bb, off, none⟩) ys.length cap, nv, vv] w fun e w' => ∃ v', e = .returned v' ∧ LB (RS w00) 37 2 w.heap.size w' v' (wiF n v false ys) ∧ Below w.heap.size w w' := by
  have HX := (show Hid (∀ (i : Nat) (a : PEnt), ys[i]? = some a → ∃ r, r.length = 2 ∧ w.rangeAt bb (off + i * 2) r ∧ REnt Any w00 r a) from hx)
  have hlm : (ys.length : Int) ≤ 9223372036854775807 := by omega
  obtain ⟨an, cn, rfl, hcn⟩ := hn.form
  obtain ⟨av, cv, rfl, hcv⟩ := hv.form
  have HNV := (show Hid (REnt Any w00 [.slice an n.length cn, .slice av v.length cv] (n, v)) from ⟨_, _, rfl, hn, hv⟩)
  have HS := (show Hid (∀ (u : World) (s : Value) (l : List Int), Below w00.heap.size w00 u → RT Any w00 s l → Calls Try.prog 35 #[s, .slice an n.length cn] u fun e w' => e = .returned (.bool (decide (l = n))) ∧ w' = u) from fun u s l hu hs => same_any u _ _ _ _ (hs.mv (Mv.below hu)).1 (hn.mv (Mv.below hu)).1)
  have HLe := (show Hid (∀ (u : World) (s : Value) (l : List Int), Below w00.heap.size w00 u → RT Any w00 s l → Calls Try.prog 37 #[.slice an n.length cn, s] u fun e w' => e = .returned (.bool (decide (cmpL n l < 0))) ∧ w' = u) from fun u s l hu hs => less_any u _ _ _ _ (hn.mv (Mv.below hu)).1 (hs.mv (Mv.below hu)).1)
  clear hx hn hv
  obtain ⟨Ln, hLn⟩ : ∃ L, n.length = L := ⟨_, rfl⟩
  obtain ⟨Lv, hLv⟩ : ∃ L, v.length = L := ⟨_, rfl⟩
  obtain ⟨N, hN⟩ : ∃ N, ys.length = N := ⟨_, rfl⟩
  rw [hLn] at HS HLe HNV ⊢
  rw [hLv] at HNV ⊢
  rw [hN] at hl h64 hc hlm ⊢
  have HN := (show Hid (ys.length = N) from hN)
  clear hLn hLv hN
  go_enter Try.func34, Try.ntmps34
  go_wp2_with fail
  go_loopw [7, 8, 14] (fun o p i wr => ∃ (q : Nat) (put : Bool) (zs : List PEnt), q ≤ N ∧ i = .int .i64 q ∧ p = .bool put ∧ zs.length ≤ 2 * q ∧ LB (RS w00) 37 2 w.heap.size wr o zs ∧ Below w.heap.size w wr ∧ Hid (wiF n v false ys = zs ++ wiF n v put (ys.drop q))) (fun _ _ i _ => N - (intOf i).toNat)
  case atStart => exact ⟨0, false, [], by omega, rfl, rfl, by simp, LB.fresh _ _ _ _ _ (Nat.le_refl _), below_alloc w _, rfl⟩
  case round =>
    obtain ⟨q, put, zs, hq, rfl, rfl, hzl, hLB, hB, hI⟩ := hrel
    by_cases hql : q < N
    · obtain ⟨x, hx⟩ : ∃ x, ys[q]? = some x := ⟨_, List.getElem?_eq_getElem (by have := HN.out; omega)⟩
      obtain ⟨r, _, hrng, s1, s2, rfl, t1, t2⟩ := HX.out q x hx
      have hrng := rangeAt_block hrng (hB.block bb hbb)
      obtain ⟨a1, c1, rfl, hc1⟩ := t1.form
      obtain ⟨a2, c2, rfl, hc2⟩ := t2.form
      have hrow0 := Row.new wr 37 [.slice none 0 0, .slice none 0 0]
      have HD := (show Hid (ys.drop q = x :: ys.drop (q + 1)) from drop_cons hx)
      clear hx
      have HXE := (show Hid (REnt Any w00 [.slice a1 x.1.length c1, .slice a2 x.2.length c2] x) from ⟨_, _, rfl, t1, t2⟩)
      have HXV := (show Hid (REnt Any w00 [.slice a1 x.1.length c1, .slice av Lv cv] (x.1, v)) by obtain ⟨p1, p2, e, _, q2⟩ := HNV.out; simp only [List.cons.injEq, and_true] at e; obtain ⟨rfl, rfl⟩ := e; exact ⟨_, _, rfl, t1, q2⟩)
      have HT1 := (show Hid (RT Any w00 (.slice a1 x.1.length c1) x.1) from t1)
      have hone := onE2 t1.one t2.one
      clear t1 t2
      obtain ⟨L1, hL1⟩ : ∃ L, x.1.length = L := ⟨_, rfl⟩
      obtain ⟨L2, hL2⟩ : ∃ L, x.2.length = L := ⟨_, rfl⟩
      rw [hL1] at hrng hone HXE HXV HT1
      rw [hL2] at hrng hone HXE
      clear hL1 hL2
      go_upto_region 6 with (first
        | (refine wpList_load_mid rfl _ _ rfl bb (off + q * 2) rfl [.slice a1 L1 c1, .slice a2 L2 c2] _ hrng Try.underlying37 rfl (by kernel_rfl) ?_)
        | (refine wl_store rfl _ _ _ rfl wr.heap.size [.slice a1 L1 c1, .slice a2 L2 c2] rfl rfl _ _ hrow0 rfl (by kernel_rfl) hone ?_; intro w5 hr5 hg5))
      have hb5 : Below wr.heap.size wr w5 := (below_alloc wr _).trans (grown_below hg5 (by simp) (fun k hk => by cases hk; exact Nat.le_refl _))
      have B5 : Below w.heap.size w w5 := below_and hB (Nat.le_refl _) hb5
      have hr5 := hr5.out
      have hLB5 := hLB.below (mov_rs w00) hb5
      have hlt5 : ∀ g, u7.ownBlock = some g → g < wr.heap.size := hLB.lt
      have hs5 : wr.heap.size < w5.heap.size := by
        obtain ⟨hlt, _⟩ := Array.getElem?_eq_some_iff.1 hr5
        exact hlt
      have HS5 := fun u (hu : Below w.heap.size w u) => HS.out u _ x.1 (below_and h00 (Nat.le_refl _) hu) HT1.out
      have HL5 := HLe.out w5 _ x.1 (below_and h00 (Nat.le_refl _) B5) HT1.out
      clear hg5 hrow0 hrng hone hb5 hLB
      have e0 := hr5.cell (j := 0) rfl
      cases put with
      | false =>
        by_cases hlt : cmpL n x.1 < 0
        · rw [decide_eq_true hlt] at HL5
          go_upto_region 9 with (first
            | (go_at_call 37; refine HL5.mono ?_; rintro e w5 ⟨rfl, rfl⟩)
            | (at_builtin; refine wl_push (mov_rs w00) rfl _ _ _ rfl 37 2 48 _ Try.underlying22 Try.infE rfl (by decide) w.heap.size u7 zs rfl hLB5 [.slice an Ln cn, .slice av Lv cv] (n, v) w5.heap.size (RS.of HNV.out _ _) rfl (one_E HNV.out) B5.size (fun g hg => Nat.lt_trans (hlt5 g hg) hs5) rfl B5.size (by omega) (by decide) ?_; intro v6 w6 hLB6 hg6))
          have B6 : Below w.heap.size w w6 := B5.trans (grown_below hg6 B5.size (fun k hk => hLB5.fr k hk))
          have hr6 := hr5.grown hg6 (fun e => by have := hlt5 _ e; omega)
          have e6 := hr6.cell (j := 0) rfl
          have HS6 := HS5 w6 B6
          rw [decide_eq_false (fun e => cmp_lt_ne hlt e.symm)] at HS6
          go_wp2_with (first
            | (go_at_call 35; refine HS6.mono ?_; rintro e w6 ⟨rfl, rfl⟩)
            | (refine wl_load rfl _ _ rfl wr.heap.size rfl _ _ hr6 _ Try.underlying37 rfl (by kernel_rfl) ?_)
            | (at_builtin; refine wl_push (mov_rs w00) rfl _ _ _ rfl 37 2 48 _ Try.underlying22 Try.infE rfl (by decide) w.heap.size v6 (zs ++ [(n, v)]) rfl hLB6 [.slice a1 L1 c1, .slice a2 L2 c2] x w6.heap.size (RS.of HXE.out _ _) rfl (one_E HXE.out) B6.size hLB6.lt rfl B6.size (by rw [List.length_append]; simp only [List.length_cons, List.length_nil]; omega) (by decide) ?_; intro v8 w8 hLB8 hg8))
          have B8 : Below w.heap.size w w8 := B6.trans (grown_below hg8 B6.size (fun k hk => hLB6.fr k hk))
          go_roundw
          case rel => exact ⟨q + 1, true, (zs ++ [(n, v)]) ++ [x], by omega, by go_num, rfl, by simp only [List.length_append, List.length_cons, List.length_nil]; omega, hLB8, B8, by
            show _ = _
            rw [hI.out, HD.out, wiF, if_pos ⟨rfl, hlt⟩, if_neg (fun e => cmp_lt_ne hlt e.symm), decide_eq_true hlt]
            simp⟩
          case measure => simp [intOf]; omega
        rw [decide_eq_false hlt] at HL5
        have HLT := (show Hid (¬ cmpL n x.1 < 0) from hlt)
        by_cases heq : x.1 = n
        · skip
          have HS6 := HS5 w5 B5
          rw [decide_eq_true heq] at HS6
          go_wp2_with (first
            | (go_at_call 37; refine HL5.mono ?_; rintro e w5 ⟨rfl, rfl⟩)
            | (go_at_call 35; refine HS6.mono ?_; rintro e w5 ⟨rfl, rfl⟩)
            | (refine wl_set rfl _ _ _ rfl wr.heap.size 1 _ rfl rfl _ _ hr5 (show 1 < 2 by decide) (by kernel_rfl) rfl ?_; intro w6 hr6 hg6; have hLB6 := hLB5.grownS hg6 (fun e => Nat.lt_irrefl _ (hlt5 _ e)); have B6 : Below w.heap.size w w6 := B5.trans (grown_below hg6 B5.size (fun k hk => by cases hk; exact hB.size)); have s6 : wr.heap.size < w6.heap.size := Nat.lt_of_lt_of_le hs5 hg6.size)
            | (refine wl_load rfl _ _ rfl wr.heap.size rfl _ _ hr6.out _ Try.underlying37 rfl (by kernel_rfl) ?_)
            | (at_builtin; refine wl_push (mov_rs w00) rfl _ _ _ rfl 37 2 48 _ Try.underlying22 Try.infE rfl (by decide) w.heap.size u7 zs rfl hLB6 [.slice a1 L1 c1, .slice av Lv cv] (x.1, v) w6.heap.size (RS.of HXV.out _ _) rfl (one_E HXV.out) B6.size (fun g hg => Nat.lt_trans (hlt5 g hg) s6) rfl B6.size (by omega) (by decide) ?_; intro v8 w8 hLB8 hg8))
          have B8 : Below w.heap.size w w8 := B6.trans (grown_below hg8 B6.size (fun k hk => hLB6.fr k hk))
          go_roundw
          case rel => exact ⟨q + 1, true, zs ++ [(x.1, v)], by omega, by go_num, rfl, by simp only [List.length_append, List.length_cons, List.length_nil]; omega, hLB8, B8, by
            show _ = _
            rw [hI.out, HD.out, wiF, if_neg (fun h => absurd h.2 (by have := HLT.out; omega)), if_pos heq, decide_eq_false (p := cmpL n x.1 < 0) (by have := HLT.out; omega), decide_eq_true heq]
            simp⟩
          case measure => simp [intOf]; omega
        · skip
          have HS6 := HS5 w5 B5
          rw [decide_eq_false heq] at HS6
          go_wp2_with (first
            | (go_at_call 37; refine HL5.mono ?_; rintro e w5 ⟨rfl, rfl⟩)
            | (go_at_call 35; refine HS6.mono ?_; rintro e w5 ⟨rfl, rfl⟩)
            | (refine wl_load rfl _ _ rfl wr.heap.size rfl _ _ hr5 _ Try.underlying37 rfl (by kernel_rfl) ?_)
            | (at_builtin; refine wl_push (mov_rs w00) rfl _ _ _ rfl 37 2 48 _ Try.underlying22 Try.infE rfl (by decide) w.heap.size u7 zs rfl hLB5 [.slice a1 L1 c1, .slice a2 L2 c2] x w5.heap.size (RS.of HXE.out _ _) rfl (one_E HXE.out) B5.size (fun g hg => Nat.lt_trans (hlt5 g hg) hs5) rfl B5.size (by omega) (by decide) ?_; intro v8 w8 hLB8 hg8))
          have B8 : Below w.heap.size w w8 := B5.trans (grown_below hg8 B5.size (fun k hk => hLB5.fr k hk))
          go_roundw
          case rel => exact ⟨q + 1, false, zs ++ [x], by omega, by go_num, rfl, by simp only [List.length_append, List.length_cons, List.length_nil]; omega, hLB8, B8, by
            show _ = _
            rw [hI.out, HD.out, wiF, if_neg (fun h => absurd h.2 (by have := HLT.out; omega)), if_neg heq, decide_eq_false (p := cmpL n x.1 < 0) (by have := HLT.out; omega), decide_eq_false heq]
            simp⟩
          case measure => simp [intOf]; omega
      | true =>
        by_cases heq : x.1 = n
        · skip
          have HS6 := HS5 w5 B5
          rw [decide_eq_true heq] at HS6
          go_wp2_with (first
            | (go_at_call 35; refine HS6.mono ?_; rintro e w5 ⟨rfl, rfl⟩)
            | (refine wl_set rfl _ _ _ rfl wr.heap.size 1 _ rfl rfl _ _ hr5 (show 1 < 2 by decide) (by kernel_rfl) rfl ?_; intro w6 hr6 hg6; have hLB6 := hLB5.grownS hg6 (fun e => Nat.lt_irrefl _ (hlt5 _ e)); have B6 : Below w.heap.size w w6 := B5.trans (grown_below hg6 B5.size (fun k hk => by cases hk; exact hB.size)); have s6 : wr.heap.size < w6.heap.size := Nat.lt_of_lt_of_le hs5 hg6.size)
            | (refine wl_load rfl _ _ rfl wr.heap.size rfl _ _ hr6.out _ Try.underlying37 rfl (by kernel_rfl) ?_)
            | (at_builtin; refine wl_push (mov_rs w00) rfl _ _ _ rfl 37 2 48 _ Try.underlying22 Try.infE rfl (by decide) w.heap.size u7 zs rfl hLB6 [.slice a1 L1 c1, .slice av Lv cv] (x.1, v) w6.heap.size (RS.of HXV.out _ _) rfl (one_E HXV.out) B6.size (fun g hg => Nat.lt_trans (hlt5 g hg) s6) rfl B6.size (by omega) (by decide) ?_; intro v8 w8 hLB8 hg8))
          have B8 : Below w.heap.size w w8 := B6.trans (grown_below hg8 B6.size (fun k hk => hLB6.fr k hk))
          go_roundw
          case rel => exact ⟨q + 1, true, zs ++ [(x.1, v)], by omega, by go_num, rfl, by simp only [List.length_append, List.length_cons, List.length_nil]; omega, hLB8, B8, by
            show _ = _
            rw [hI.out, HD.out, wiF, if_neg (by simp), if_pos heq]
            simp⟩
          case measure => simp [intOf]; omega
        · skip
          have HS6 := HS5 w5 B5
          rw [decide_eq_false heq] at HS6
          go_wp2_with (first
            | (go_at_call 35; refine HS6.mono ?_; rintro e w5 ⟨rfl, rfl⟩)
            | (refine wl_load rfl _ _ rfl wr.heap.size rfl _ _ hr5 _ Try.underlying37 rfl (by kernel_rfl) ?_)
            | (at_builtin; refine wl_push (mov_rs w00) rfl _ _ _ rfl 37 2 48 _ Try.underlying22 Try.infE rfl (by decide) w.heap.size u7 zs rfl hLB5 [.slice a1 L1 c1, .slice a2 L2 c2] x w5.heap.size (RS.of HXE.out _ _) rfl (one_E HXE.out) B5.size (fun g hg => Nat.lt_trans (hlt5 g hg) hs5) rfl B5.size (by omega) (by decide) ?_; intro v8 w8 hLB8 hg8))
          have B8 : Below w.heap.size w w8 := B5.trans (grown_below hg8 B5.size (fun k hk => hLB5.fr k hk))
          go_roundw
          case rel => exact ⟨q + 1, true, zs ++ [x], by omega, by go_num, rfl, by simp only [List.length_append, List.length_cons, List.length_nil]; omega, hLB8, B8, by
            show _ = _
            rw [hI.out, HD.out, wiF, if_neg (by simp), if_neg heq]
            simp⟩
          case measure => simp [intOf]; omega
    · have hLBr := hLB
      have he : ys.drop q = [] := List.drop_of_length_le (by have := HN.out; omega)
      cases put with
      | true =>
        go_wp2_with fail
        go_ret
        refine ⟨_, rfl, ?_, hB⟩
        rw [hI.out, he, wiF, if_pos rfl, List.append_nil]
        exact hLB
      | false =>
        go_wp2_with (at_builtin; refine wl_push (mov_rs w00) rfl _ _ _ rfl 37 2 48 _ Try.underlying22 Try.infE rfl (by decide) w.heap.size u7 zs rfl hLB [.slice an Ln cn, .slice av Lv cv] (n, v) wr.heap.size (RS.of HNV.out _ _) rfl (one_E HNV.out) hB.size hLB.lt rfl hB.size (by omega) (by decide) ?_; intro v8 w8 hLB8 hg8)
        have B8 : Below w.heap.size w w8 := hB.trans (grown_below hg8 hB.size (fun k hk => hLBr.fr k hk))
        go_ret
        refine ⟨_, rfl, ?_, B8⟩
        rw [hI.out, he, wiF, if_neg (by simp)]
        exact hLB8

set_option maxRecDepth 10000 in
set_option maxHeartbeats 2000000 in
theorem refWith_none (w00 w : World) (h00 : Below w00.heap.size w00 w) (ao : Option Addr) (c : Nat) (nv vv : Value) (n v : List Int) (hn : RT Any w00 nv n) (hv : RT Any w00 vv v) :
    Calls Try.prog 34 #[.slice ao 0 c, nv, vv] w fun e w' => ∃ v', e = .returned v' ∧ LB (RS w00) 37 2 w.heap.size w' v' (wiF n v false []) ∧ Below w.heap.size w w' := by
  obtain ⟨an, cn, rfl, hcn⟩ := hn.form
  obtain ⟨av, cv, rfl, hcv⟩ := hv.form
  have HNV := (show Hid (REnt Any w00 [.slice an n.length cn, .slice av v.length cv] (n, v)) from ⟨_, _, rfl, hn, hv⟩)
  have hB := below_alloc w (.cells #[] 37)
  have hLB : LB (RS w00) 37 2 w.heap.size (w.alloc (.cells #[] 37)) (.slice (some ⟨w.heap.size, 0, none⟩) 0 0) [] := LB.fresh _ _ _ _ _ (Nat.le_refl _)
  clear hn hv
  generalize n.length = Ln at *
  generalize v.length = Lv at *
  go_enter Try.func34, Try.ntmps34
  go_wp2_with fail
  obtain ⟨w1, hw1⟩ : ∃ w1, w1 = w.alloc (.cells #[] 37) := ⟨_, rfl⟩
  rw [← hw1] at hB hLB ⊢
  clear hw1
  refine wp_loop_rounds 1 ?_; rw [rounds_succ]
  go_wp2_with (at_builtin; refine wl_push (mov_rs w00) rfl _ _ _ rfl 37 2 48 _ Try.underlying22 Try.infE rfl (by decide) w.heap.size (.slice (some ⟨w.heap.size, 0, none⟩) 0 0) [] rfl hLB [.slice an Ln cn, .slice av Lv cv] (n, v) w1.heap.size (RS.of HNV.out _ _) rfl (one_E HNV.out) hB.size hLB.lt rfl hB.size (by decide) (by decide) ?_; intro v8 w8 hLB8 hg8)
  have B8 : Below w.heap.size w w8 := hB.trans (grown_below hg8 hB.size (fun k hk => hLB.fr k hk))
  go_ret
  refine ⟨_, rfl, ?_, B8⟩
  rw [wiF, if_neg (by simp)]
  exact hLB8
/-- The document's With. -/
theorem refWith_any (w00 w : World) (h00 : Below w00.heap.size w00 w) (ev : Value) (ys : List PEnt) (h : RL REnt 2 Any w00 ev ys) (h64 : ys.length ≤ 64) (nv vv : Value) (n v : List Int) (hn : RT Any w00 nv n) (hv : RT Any w00 vv v) :
    Calls Try.prog 34 #[ev, nv, vv] w fun e w' => ∃ v', e = .returned v' ∧ LB (RS w00) 37 2 w.heap.size w' v' (wiF n v false ys) ∧ Below w.heap.size w w' := by
  by_cases hl : 0 < ys.length
  · obtain ⟨b1, o1, c1, rfl, hc1, hm1, _, hb1, hx1⟩ := h.at hl
    exact refWith_some w00 w h00 b1 o1 c1 ys hl h64 hc1 hm1 (Nat.lt_of_lt_of_le hb1 h00.size) (fun i a ha => by obtain ⟨r, e1, e2, e3⟩ := hx1 i a ha; exact ⟨r, e1, rangeAt_block e2 (h00.block _ hb1), e3⟩) nv vv n v hn hv
  · obtain rfl : ys = [] := List.eq_nil_of_length_eq_zero (by omega)
    obtain ⟨ao, c, rfl, _⟩ := h.form
    exact refWith_none w00 w h00 ao c nv vv n v hn hv
end Go.Proofs.Ytbnioibeckifbaa
