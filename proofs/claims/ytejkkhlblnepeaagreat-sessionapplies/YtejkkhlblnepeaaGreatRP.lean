/- The document's Put over sessions. (Made by mk9p.py.) -/
import Derived.Test.YtejkkhlblnepeaaGreatXB
import Derived.Test.YtejkkhlblnepeaaGreatHD
import Derived.Test.YtejkkhlblnepeaaGreatKk
import Derived.Test.YtejkkhlblnepeaaGreatRG
section
set_option linter.unusedVariables false
set_option linter.unusedSimpArgs false
namespace Go.Proofs.YtejkkhlblnepeaaGreat
open Go.RowKit Oct Kvl

/-- The end of the document's Last. -/
def RlG (GG : Nat → Prop) (w : World) (x : Int × Int × List Int) (e : Ending) (w' : World) : Prop :=
  ∃ vv, e = .returned (.tuple #[.int .i64 x.1, .agg #[.int .i64 x.2.1, vv]]) ∧ RT GG w' vv x.2.2 ∧ Below w.heap.size w w'

set_option maxRecDepth 10000 in
set_option maxHeartbeats 4000000 in
/-- catenaryref09.Last. -/
theorem refLast_any {GG : Nat → Prop} (w : World) (r : List Value) (a : PApp) (h : RApp GG w r a) (cc : Int) (hG : ∀ k, GG k → k ≠ w.heap.size + 1) :
    Calls Tryz.prog 11 #[.agg r.toArray, .int .i64 cc] w (RlG GG w (lasN a.2.2.2 cc)) := by
  obtain ⟨ve, vl, vs, rfl, _, _, h3⟩ := h
  generalize a.2.2.2 = ys at *
  obtain ⟨w2, hw2⟩ : ∃ w2, w2 = (w.alloc (.cells #[.int .i64 a.1, ve, vl, vs] 26)).alloc (.cells #[.int .i64 0, .slice none 0 0] 34) := ⟨_, rfl⟩
  have ra : Row w2 w.heap.size 26 [.int .i64 a.1, ve, vl, vs] := by rw [hw2]; exact rowA (Row.new w 26 _) _
  have rr : Row w2 (w.heap.size + 1) 34 [.int .i64 0, .slice none 0 0] := by
    rw [hw2]
    have := Row.new (w.alloc (.cells #[.int .i64 a.1, ve, vl, vs] 26)) 34 [.int .i64 0, .slice none 0 0]
    simpa using this
  have hB : Below w.heap.size w w2 := by rw [hw2]; exact ((Below.refl _ w).alloc (Nat.le_refl _) _).alloc (by simp) _
  have hsz : w2.heap.size = w.heap.size + 2 := by rw [hw2]; simp
  have h32 := h3.mv mov_ses hB.size (Mv.belowG hB)
  clear h3
  have c3 := ra.cell (j := 3) rfl
  have HNG := (show Hid (∀ k, GG k → k ≠ w.heap.size + 1) from hG)
  clear hG
  have fin0 : ∀ {w5 w6 : World}, Below w2.heap.size w2 w5 → w5.grownBy w6 (some (w.heap.size + 1)) → lasN ys cc = (0, 0, []) → RlG GG w (lasN ys cc) (.returned (.tuple #[.int .i64 0, .agg #[.int .i64 0, .slice none 0 0]])) w6 := by
    intro w5 w6 hb hg e
    have hB5 := below_and hB (Nat.le_refl _) hb
    rw [e]
    exact ⟨_, rfl, RT.nil _ _, hB5.trans (grown_below hg hB5.size (fun k hk => by cases hk; omega))⟩
  by_cases hl : 0 < ys.length
  rotate_left
  · obtain rfl : ys = [] := List.eq_nil_of_length_eq_zero (by omega)
    obtain ⟨ao, cap, hvs, _⟩ := h32.form
    have hvs : vs = .slice ao 0 cap := hvs
    subst hvs
    go_enter Tryz.func11, Tryz.ntmps11
    go_upto_region 1 with fail
    rw [← hw2]
    clear hw2
    go_wp2_with fail
    refine wp_loop_rounds 1 ?_; rw [rounds_succ]
    go_wp2_with (refine wl_store rfl _ _ _ rfl (w.heap.size + 1) [.int .i64 0, .slice none 0 0] rfl rfl _ _ rr rfl (by kernel_rfl) (one_res rfl) ?_; intro w7 hr7 hg7)
    refine bodyPost_ret (results_tc rfl _ _ (w.heap.size + 1) _ _ (0, 0) _ (by rfl) hr7.out Tryz.underlying34 rfl (by kernel_rfl)) rfl ?_
    exact fin0 (Below.refl _ _) hg7 rfl
  obtain ⟨b, off, cap, rfl, hc, hm, _, hb, hx⟩ := h32.at hl
  have HX := (show Hid (∀ (i : Nat) (a : PEnt), ys[i]? = some a → ∃ r, r.length = 4 ∧ w2.rangeAt b (off + i * 4) r ∧ RSes GG w2 r a) from hx)
  have hlm : (ys.length : Int) ≤ 9223372036854775807 := by unfold maxLen at hm; omega
  have HS := (show Hid (w2.heap.size = w.heap.size + 2) from hsz)
  have FIN0 := (show Hid (∀ {w5 w6 : World}, Below w2.heap.size w2 w5 → w5.grownBy w6 (some (w.heap.size + 1)) → lasN ys cc = (0, 0, []) → RlG GG w (lasN ys cc) (.returned (.tuple #[.int .i64 0, .agg #[.int .i64 0, .slice none 0 0]])) w6) from fin0)
  clear hx h32 hm hsz fin0
  obtain ⟨N, hN⟩ : ∃ n, n = ys.length := ⟨_, rfl⟩
  rw [← hN] at hlm hl hc c3 ra ⊢
  rw [← hN] at hw2
  have HN := (show Hid (ys.length = N) from hN.symm)
  clear hN
  go_enter Tryz.func11, Tryz.ntmps11
  go_upto_region 1 with fail
  rw [← hw2]
  clear hw2
  go_wp2_with fail
  go_loopw [11] (fun i wr => ∃ q : Nat, q ≤ N ∧ i = .int .i64 q ∧ Below w2.heap.size w2 wr ∧ Hid (∀ (j : Nat) (y : PEnt), j < q → ys[j]? = some y → y.1 ≠ [cc])) (fun i _ => N - (intOf i).toNat)
  case atStart => exact ⟨0, by omega, rfl, Below.refl _ _, fun j y hj => by omega⟩
  case round =>
    obtain ⟨q, hq, rfl, hBr, hI⟩ := hrel
    by_cases hql : q < N
    · obtain ⟨x, hx⟩ : ∃ x, ys[q]? = some x := ⟨_, List.getElem?_eq_getElem (by have := HN.out; omega)⟩
      obtain ⟨r, _, hrng, c1, d1, k1, s1, l1, rfl, t1, t2⟩ := HX.out q x hx
      have hrng := rangeAt_block hrng (hBr.block b hb)
      obtain ⟨a1, cp1, rfl, hc1⟩ := t1.form
      have hrow0 := Row.new wr 43 [.int .i64 0, .int .i64 0, .int .i64 0, .slice none 0 0]
      have HP := (show Hid (x = ([c1], d1 :: k1 :: l1)) from t2)
      have HXX := (show Hid (ys[q]? = some x) from hx)
      have hone := onN4 (c := c1) (d := d1) (k := k1) t1.one
      have rrr := rr.below hBr
      have hne : ¬ (wr.heap.size = w.heap.size + 1) := by have := hBr.size; have := HS.out; omega
      clear hx t2
      by_cases g1 : c1 = cc
      · have g1' : (c1 == cc) = true := by simp [g1]
        have HH := (show Hid (lasN ys cc = (d1, k1, l1)) by
          show _ = _
          unfold lasN
          rw [fnd_at hI.out HXX.out (by rw [HP.out, g1]), HP.out]
          rfl)
        clear g1
        have HT1 := (show Hid (RT GG w2 (.slice a1 l1.length cp1) l1) from t1)
        clear t1
        generalize l1.length = L1 at *
        go_upto_region 5 with (first
          | (refine wpList_load_mid rfl _ _ rfl b (off + q * 4) rfl [.int .i64 c1, .int .i64 d1, .int .i64 k1, .slice a1 L1 cp1] _ hrng Tryz.underlying43 rfl (by kernel_rfl) ?_)
          | (refine wl_store rfl _ _ _ rfl wr.heap.size [.int .i64 c1, .int .i64 d1, .int .i64 k1, .slice a1 L1 cp1] rfl rfl _ _ hrow0 rfl (by kernel_rfl) hone ?_; intro w5 hr5 hg5; have hb5 : Below wr.heap.size wr w5 := (below_alloc wr _).trans (grown_below hg5 (by simp) (fun k hk => by cases hk; exact Nat.le_refl _)); have e0 := hr5.out.cell (j := 0) rfl))
        have r5 := hr5.out
        have rr5 := rrr.below hb5
        have e1 := r5.cell (j := 1) rfl
        have e2 := r5.cell (j := 2) rfl
        have e3 := r5.cell (j := 3) rfl
        have m0 := rr5.cell (j := 0) rfl
        have m1 := rr5.cell (j := 1) rfl
        have f0 := rr5.frozen 0
        have f1 := rr5.frozen 1
        go_region
        have hr9 := ((rr5.set 0 (.int .i64 k1)).set 1 (.slice a1 L1 cp1)).drew
        have hg9 := grown_to_drew (grown_trans (grown_set w5 (w.heap.size + 1) 0 (.int .i64 k1)) (grown_set _ (w.heap.size + 1) 1 (.slice a1 L1 cp1)) (.inl rfl))
        generalize ((w5.setCell ⟨w.heap.size + 1, 0, none⟩ (.int .i64 k1)).setCell ⟨w.heap.size + 1, 1, none⟩ (.slice a1 L1 cp1)).drew = w9 at *
        go_wp2_with fail
        refine bodyPost_ret (results_tc rfl _ _ (w.heap.size + 1) _ _ (0, 0) _ (by rfl) hr9 Tryz.underlying34 rfl (by kernel_rfl)) rfl ?_
        have hs2 := HS.out
        have b25 := below_and hBr (Nat.le_refl _) hb5
        have B5 := below_and hB (Nat.le_refl _) b25
        rw [HH.out]
        refine ⟨_, rfl, ?_, B5.trans (grown_below hg9 B5.size (fun k hk => by cases hk; omega))⟩
        exact (HT1.out.mv (Mv.belowG b25)).mv (fun k hk hlt => ⟨hg9.block k hlt (fun e => by injection e with e; exact HNG.out k hk (by omega)), hk⟩)
      · have g1' : (c1 == cc) = false := by simp [g1]
        have G1 := (show Hid (¬ c1 = cc) from g1)
        clear g1
        go_wp2_with (first
          | (refine wpList_load_mid rfl _ _ rfl b (off + q * 4) rfl [.int .i64 c1, .int .i64 d1, .int .i64 k1, .slice a1 l1.length cp1] _ hrng Tryz.underlying43 rfl (by kernel_rfl) ?_)
          | (refine wl_store rfl _ _ _ rfl wr.heap.size [.int .i64 c1, .int .i64 d1, .int .i64 k1, .slice a1 l1.length cp1] rfl rfl _ _ hrow0 rfl (by kernel_rfl) hone ?_; intro w5 hr5 hg5; have hb5 : Below wr.heap.size wr w5 := (below_alloc wr _).trans (grown_below hg5 (by simp) (fun k hk => by cases hk; exact Nat.le_refl _)); have e0 := hr5.out.cell (j := 0) rfl))
        go_roundw
        case rel =>
          refine ⟨q + 1, by omega, by go_num, below_and hBr (Nat.le_refl _) hb5, fun j y hj hy => ?_⟩
          rcases Nat.lt_or_ge j q with h1 | h1
          · exact hI.out j y h1 hy
          · obtain rfl : j = q := by omega
            rw [HXX.out] at hy
            cases hy
            rw [HP.out]
            intro e
            exact G1.out (by simpa using e)
        case measure => simp [intOf]; omega
    · have hqd : decide ((q : Int) < N) = false := by simp; omega
      have HH := (show Hid (lasN ys cc = (0, 0, [])) by
        show _ = _
        unfold lasN
        rw [fnd_no fun j y hy => hI.out j y (by have := HN.out; have := (List.getElem?_eq_some_iff.1 hy).1; omega) hy])
      have rrr := rr.below hBr
      go_wp2_with (refine wl_store rfl _ _ _ rfl (w.heap.size + 1) [.int .i64 0, .slice none 0 0] rfl rfl _ _ rrr rfl (by kernel_rfl) (one_res rfl) ?_; intro w7 hr7 hg7)
      refine bodyPost_ret (results_tc rfl _ _ (w.heap.size + 1) _ _ (0, 0) _ (by rfl) hr7.out Tryz.underlying34 rfl (by kernel_rfl)) rfl ?_
      exact FIN0.out hBr hg7 HH.out
end Go.Proofs.YtejkkhlblnepeaaGreat
end

section
set_option linter.unusedVariables false
set_option linter.unusedSimpArgs false
namespace Go.Proofs.YtejkkhlblnepeaaGreat
open Go.RowKit Oct Kvl

/-- Sessions whose texts lie in memory that was there in w0, in blocks of which GG holds. -/
def RNG (GG : Nat → Prop) (w0 : World) (G : Nat → Prop) (w : World) (r : List Value) (x : PEnt) : Prop := ∀ u, Below w0.heap.size w0 u → RSes GG u r x
theorem mov_rng {GG : Nat → Prop} (w0 : World) : Mov (RNG GG w0) := fun _ _ _ _ _ _ h _ _ => h
theorem RNG.of {GG : Nat → Prop} {w0 : World} {r : List Value} {x : PEnt} (h : RSes GG w0 r x) (G : Nat → Prop) (w : World) : RNG GG w0 G w r x := fun u hu => mov_ses _ _ _ _ _ _ h hu.size (Mv.belowG hu)
theorem LB.rng {GG : Nat → Prop} {w0 w : World} {B : Nat} {v : Value} {zs : List PEnt} (h : LB (RNG GG w0) 43 4 B w v zs) (hb : Below w0.heap.size w0 w) (hG : ∀ k, B ≤ k → GG k) : RL RSes 4 GG w v zs := by
  obtain ⟨rows, h1, h2⟩ := (h.rl (mov_rng w0)).mv (mov_rng w0) (Nat.le_refl _) (fun k hk _ => ⟨rfl, hG k hk⟩ : Mv _ GG w w)
  exact ⟨rows, h1, h2.mono fun r a h => h w hb⟩
theorem LB.kept9 {GG : Nat → Prop} {w0 w w' : World} {B b : Nat} {v : Value} {zs : List PEnt} (h : LB (RNG GG w0) 43 4 B w v zs) (hg : w.grownBy w' (some b)) (hn : v.ownBlock ≠ some b) : LB (RNG GG w0) 43 4 B w' v zs := by
  obtain ⟨rows, h0, h1, h2, h3⟩ := h
  exact ⟨rows, h0, World.ownsRow.kept h1 hg (.inr hn), h2, h3⟩
theorem wiS_cons {n v : List Int} {put : Bool} {x : PEnt} {r : List PEnt} : wiS n v put (x :: r) = (if put = false ∧ ¬ cmpL x.1 n < 0 then [(n, v)] else []) ++ ((if x.1 = n then [] else [x]) ++ wiS n v (put || !decide (cmpL x.1 n < 0)) r) := rfl

set_option maxRecDepth 10000 in
set_option maxHeartbeats 8000000 in
/-- The document's Put. -/
theorem refPut_any {GG : Nat → Prop} (w : World) (hGG : ∀ k, w.heap.size ≤ k → GG k) (lv : Value) (ys : List PEnt) (h : RL RSes 4 GG w lv ys) (h64 : ys.length ≤ 64) (c d k : Int) (av : Value) (l : List Int) (hv : RT GG w av l) :
    Calls Tryz.prog 30 #[lv, .agg #[.int .i64 c, .int .i64 d, .int .i64 k, av]] w fun e w' => ∃ v', e = .returned v' ∧ RL RSes 4 GG w' v' (wiS [c] (d :: k :: l) false ys) ∧ Below w.heap.size w w' := by
  have le := Nat.le_refl w.heap.size
  have HGG := (show Hid (∀ k, w.heap.size ≤ k → GG k) from hGG)
  obtain ⟨an, cn, rfl, hcn⟩ := hv.form
  have HNV := (show Hid (RSes GG w [.int .i64 c, .int .i64 d, .int .i64 k, .slice an l.length cn] ([c], d :: k :: l)) from ⟨_, _, _, _, _, rfl, hv, rfl⟩)
  obtain ⟨w0, hw0⟩ : ∃ w0, w0 = w.alloc (.cells #[.int .i64 c, .int .i64 d, .int .i64 k, .slice an l.length cn] 43) := ⟨_, rfl⟩
  have r0 : Row w0 w.heap.size 43 [.int .i64 c, .int .i64 d, .int .i64 k, .slice an l.length cn] := by rw [hw0]; exact Row.new w _ _
  have B0 : Below w.heap.size w w0 := by rw [hw0]; exact below_alloc _ _
  obtain ⟨asv, cs, rfl, hcs⟩ := h.form
  obtain ⟨N, hN⟩ : ∃ N, N = ys.length := ⟨_, rfl⟩
  have HX := (show Hid (∀ (q : Nat) (x : PEnt), ys[q]? = some x → ∃ b off, asv = some ⟨b, off, none⟩ ∧ b < w.heap.size ∧ ∃ (c1 d1 k1 : Int) (a1 : Option Addr) (cp1 : Nat) (l1 : List Int), w.rangeAt b (off + q * 4) [.int .i64 c1, .int .i64 d1, .int .i64 k1, .slice a1 l1.length cp1] ∧ RSes GG w [.int .i64 c1, .int .i64 d1, .int .i64 k1, .slice a1 l1.length cp1] x ∧ x.1 = [c1]) from fun q x hx => by
    have hl : 0 < ys.length := by have := (List.getElem?_eq_some_iff.1 hx).1; omega
    obtain ⟨b, off, cap, e, hc, hm, _, hb, hx'⟩ := h.at hl
    injection e with e1 e2 e3
    obtain ⟨r, _, hr, c1, d1, k1, s1, l1, rfl, t1, t2⟩ := hx' q x hx
    obtain ⟨a1, cp1, rfl, _⟩ := t1.form
    exact ⟨b, off, e1, hb, c1, d1, k1, a1, cp1, l1, hr, ⟨_, _, _, _, _, rfl, t1, t2⟩, by rw [t2]⟩)
  rw [← hN] at h64 ⊢
  have HN := (show Hid (ys.length = N) from hN.symm)
  have hlm : (N : Int) ≤ 64 := by omega
  have fin : ∀ {w9 : World} {v9 : Value} {zs : List PEnt}, wiS [c] (d :: k :: l) false ys = zs → LB (RNG GG w) 43 4 w0.heap.size w9 v9 zs → Below w0.heap.size w0 w9 → ∃ v', Ending.returned v9 = .returned v' ∧ RL RSes 4 GG w9 v' (wiS [c] (d :: k :: l) false ys) ∧ Below w.heap.size w w9 := by
    intro w9 v9 zs e hL hb
    rw [e]
    have hw := below_and B0 le hb
    exact ⟨_, rfl, hL.rng hw (fun k hk => HGG.out k (Nat.le_trans B0.size hk)), hw⟩
  have FIN := (show Hid (∀ {w9 : World} {v9 : Value} {zs : List PEnt}, wiS [c] (d :: k :: l) false ys = zs → LB (RNG GG w) 43 4 w0.heap.size w9 v9 zs → Below w0.heap.size w0 w9 → ∃ v', Ending.returned v9 = .returned v' ∧ RL RSes 4 GG w9 v' (wiS [c] (d :: k :: l) false ys) ∧ Below w.heap.size w w9) from fin)
  clear fin h hv hN hcs hcn hGG
  go_enter Tryz.func30, Tryz.ntmps30
  go_upto_region 1 with fail
  rw [← hw0]
  clear hw0
  have hL0 := LB.fresh (RNG GG w) 43 4 w0.heap.size w0 (Nat.le_refl _)
  go_wp2_with fail
  go_loopw [5, 6, 12] (fun o p i wr => ∃ (q : Nat) (put : Bool) (zs : List PEnt), q ≤ N ∧ i = .int .i64 q ∧ p = .bool put ∧ zs.length ≤ 2 * q ∧ LB (RNG GG w) 43 4 w0.heap.size wr o zs ∧ Below w0.heap.size w0 wr ∧ Hid (wiS [c] (d :: k :: l) false ys = zs ++ wiS [c] (d :: k :: l) put (ys.drop q))) (fun _ _ i _ => N - (intOf i).toNat)
  case atStart => exact ⟨0, false, [], by omega, rfl, rfl, by simp, hL0, below_alloc _ _, rfl⟩
  case round =>
    clear hL0
    obtain ⟨q, put, zs, hq, rfl, rfl, hzl, hLB, hB, hI⟩ := hrel
    by_cases hql : q < N
    · obtain ⟨x, hx⟩ : ∃ x, ys[q]? = some x := ⟨_, List.getElem?_eq_getElem (by have := HN.out; omega)⟩
      obtain ⟨b, off, rfl, hb, c1, d1, k1, a1, cp1, l1, hrng, hsx, hx1⟩ := HX.out q x hx
      have hrng := rangeAt_block hrng ((below_and B0 le hB).block b hb)
      have HSX := (show Hid (RSes GG w [.int .i64 c1, .int .i64 d1, .int .i64 k1, .slice a1 l1.length cp1] x) from hsx)
      have HX1 := (show Hid (x.1 = [c1]) from hx1)
      have HDR := (show Hid (ys.drop q = x :: ys.drop (q + 1)) from drop_cons hx)
      have hrow0 := Row.new wr 43 [.int .i64 0, .int .i64 0, .int .i64 0, .slice none 0 0]
      have hone := one_RN hsx
      have hqi : (q : Int) < (N : Int) := by omega
      clear hx hsx hx1
      go_upto_region 6 with (first
        | (refine wpList_load_mid rfl _ _ rfl b (off + q * 4) rfl [.int .i64 c1, .int .i64 d1, .int .i64 k1, .slice a1 l1.length cp1] _ hrng Tryz.underlying43 rfl (by kernel_rfl) ?_)
        | (refine wl_store rfl _ _ _ rfl wr.heap.size [.int .i64 c1, .int .i64 d1, .int .i64 k1, .slice a1 l1.length cp1] rfl rfl _ _ hrow0 rfl (by kernel_rfl) hone ?_; intro w5 hr5 hg5))
      have hr5 := hr5.out
      have hb5 : Below wr.heap.size wr w5 := (below_alloc wr (.cells ([.int .i64 0, .int .i64 0, .int .i64 0, .slice none 0 0] : List Value).toArray 43)).trans (grown_below hg5 (by simp) (fun k hk => by cases hk; exact Nat.le_refl _))
      have B5 : Below w0.heap.size w0 w5 := below_and hB (Nat.le_refl _) hb5
      have hL5 := hLB.below (mov_rng w) hb5
      have r05 := r0.below B5
      have hlt5 : ∀ g, u5.ownBlock = some g → g < wr.heap.size := hLB.lt
      have hge5 : ∀ g, u5.ownBlock = some g → w0.heap.size ≤ g := hLB.fr
      have hs5 : wr.heap.size < w5.heap.size := hr5.lt
      have e0 := hr5.cell (j := 0) rfl
      have z0 := r05.cell (j := 0) rfl
      clear hrng hone hrow0 hg5 hLB hb5
      have nxt : ∀ (ad : List PEnt) (p' : Bool), (if put = false ∧ ¬ cmpL x.1 [c] < 0 then [([c], d :: k :: l)] else []) ++ (if x.1 = [c] then [] else [x]) = ad → (put || !decide (cmpL x.1 [c] < 0)) = p' → wiS [c] (d :: k :: l) false ys = (zs ++ ad) ++ wiS [c] (d :: k :: l) p' (ys.drop (q + 1)) := fun ad p' e1 e2 => by
        rw [hI.out, HDR.out, wiS_cons, ← e1, ← e2]
        simp only [List.append_assoc]
      have NXT := (show Hid (∀ (ad : List PEnt) (p' : Bool), (if put = false ∧ ¬ cmpL x.1 [c] < 0 then [([c], d :: k :: l)] else []) ++ (if x.1 = [c] then [] else [x]) = ad → (put || !decide (cmpL x.1 [c] < 0)) = p' → wiS [c] (d :: k :: l) false ys = (zs ++ ad) ++ wiS [c] (d :: k :: l) p' (ys.drop (q + 1))) from nxt)
      clear nxt hI
      have hc3 : c1 < c ∨ c1 = c ∨ c < c1 := by omega
      cases put with
      | true =>
        rcases hc3 with hc3 | hc3 | hc3
        · have hne : (c1 != c) = true := by simp; omega
          have HE := (show Hid (wiS [c] (d :: k :: l) false ys = (zs ++ [x]) ++ wiS [c] (d :: k :: l) true (ys.drop (q + 1))) from NXT.out [x] true (by rw [if_neg (by simp), if_neg (by rw [HX1.out, one_eq]; omega)]; rfl) rfl)
          clear hc3
          go_wp2_with (first
            | (refine wl_load rfl _ _ rfl wr.heap.size rfl _ _ hr5 _ Tryz.underlying43 rfl (by kernel_rfl) ?_)
            | (at_builtin; refine wl_push (mov_rng w) rfl _ _ _ rfl 43 4 48 _ Tryz.underlying24 Tryz.infN rfl (by decide) w0.heap.size u5 zs rfl hL5 [.int .i64 c1, .int .i64 d1, .int .i64 k1, .slice a1 l1.length cp1] x w5.heap.size (RNG.of HSX.out _ _) rfl (one_RN HSX.out) B5.size (fun g hg => Nat.lt_trans (hlt5 g hg) hs5) rfl B5.size (by first | omega | (rw [List.length_append]; simp only [List.length_cons, List.length_nil]; omega)) (by decide) ?_; intro v8 w8 hLB8 hg8))
          have B8 : Below w0.heap.size w0 w8 := B5.trans (grown_below hg8 B5.size (fun k hk => hge5 k hk))
          go_roundw
          case rel => exact ⟨q + 1, true, zs ++ [x], by omega, by go_num, rfl, by simp only [List.length_append, List.length_cons, List.length_nil]; omega, hLB8, B8, HE⟩
          case measure => simp [intOf]; omega
        · have hne : (c1 != c) = false := by simp; omega
          have HE := (show Hid (wiS [c] (d :: k :: l) false ys = (zs ++ []) ++ wiS [c] (d :: k :: l) true (ys.drop (q + 1))) from NXT.out [] true (by rw [if_neg (by simp), if_pos (by rw [HX1.out, one_eq]; omega)]; rfl) rfl)
          rw [List.append_nil] at HE
          clear hc3
          go_wp2_with fail
          go_roundw
          case rel => exact ⟨q + 1, true, zs, by omega, by go_num, rfl, by omega, hL5, B5, HE⟩
          case measure => simp [intOf]; omega
        · have hne : (c1 != c) = true := by simp; omega
          have HE := (show Hid (wiS [c] (d :: k :: l) false ys = (zs ++ [x]) ++ wiS [c] (d :: k :: l) true (ys.drop (q + 1))) from NXT.out [x] true (by rw [if_neg (by simp), if_neg (by rw [HX1.out, one_eq]; omega)]; rfl) rfl)
          clear hc3
          go_wp2_with (first
            | (refine wl_load rfl _ _ rfl wr.heap.size rfl _ _ hr5 _ Tryz.underlying43 rfl (by kernel_rfl) ?_)
            | (at_builtin; refine wl_push (mov_rng w) rfl _ _ _ rfl 43 4 48 _ Tryz.underlying24 Tryz.infN rfl (by decide) w0.heap.size u5 zs rfl hL5 [.int .i64 c1, .int .i64 d1, .int .i64 k1, .slice a1 l1.length cp1] x w5.heap.size (RNG.of HSX.out _ _) rfl (one_RN HSX.out) B5.size (fun g hg => Nat.lt_trans (hlt5 g hg) hs5) rfl B5.size (by first | omega | (rw [List.length_append]; simp only [List.length_cons, List.length_nil]; omega)) (by decide) ?_; intro v8 w8 hLB8 hg8))
          have B8 : Below w0.heap.size w0 w8 := B5.trans (grown_below hg8 B5.size (fun k hk => hge5 k hk))
          go_roundw
          case rel => exact ⟨q + 1, true, zs ++ [x], by omega, by go_num, rfl, by simp only [List.length_append, List.length_cons, List.length_nil]; omega, hLB8, B8, HE⟩
          case measure => simp [intOf]; omega
      | false =>
        rcases hc3 with hc3 | hc3
        · have hge : decide (c ≤ c1) = false := by simp; omega
          have hne : (c1 != c) = true := by simp; omega
          have hcm : cmpL x.1 [c] < 0 := by rw [HX1.out]; exact (cmp_one c1 c).2 hc3
          have HE := (show Hid (wiS [c] (d :: k :: l) false ys = (zs ++ [x]) ++ wiS [c] (d :: k :: l) false (ys.drop (q + 1))) from NXT.out [x] false (by rw [if_neg (fun h => h.2 hcm), if_neg (by rw [HX1.out, one_eq]; omega)]; rfl) (by rw [decide_eq_true hcm]; rfl))
          clear hc3 hcm
          go_wp2_with (first
            | (refine wl_load rfl _ _ rfl wr.heap.size rfl _ _ hr5 _ Tryz.underlying43 rfl (by kernel_rfl) ?_)
            | (at_builtin; refine wl_push (mov_rng w) rfl _ _ _ rfl 43 4 48 _ Tryz.underlying24 Tryz.infN rfl (by decide) w0.heap.size u5 zs rfl hL5 [.int .i64 c1, .int .i64 d1, .int .i64 k1, .slice a1 l1.length cp1] x w5.heap.size (RNG.of HSX.out _ _) rfl (one_RN HSX.out) B5.size (fun g hg => Nat.lt_trans (hlt5 g hg) hs5) rfl B5.size (by first | omega | (rw [List.length_append]; simp only [List.length_cons, List.length_nil]; omega)) (by decide) ?_; intro v8 w8 hLB8 hg8))
          have B8 : Below w0.heap.size w0 w8 := B5.trans (grown_below hg8 B5.size (fun k hk => hge5 k hk))
          go_roundw
          case rel => exact ⟨q + 1, false, zs ++ [x], by omega, by go_num, rfl, by simp only [List.length_append, List.length_cons, List.length_nil]; omega, hLB8, B8, HE⟩
          case measure => simp [intOf]; omega
        have hge : decide (c ≤ c1) = true := by simp; omega
        have hcm : ¬ cmpL x.1 [c] < 0 := by rw [HX1.out, cmp_one]; omega
        have HCM := (show Hid (¬ cmpL x.1 [c] < 0) from hcm)
        clear hcm
        go_upto_region 9 with (first
          | (refine wl_load rfl _ _ rfl w.heap.size rfl _ _ r05 _ Tryz.underlying43 rfl (by kernel_rfl) ?_)
          | (at_builtin; refine wl_push (mov_rng w) rfl _ _ _ rfl 43 4 48 _ Tryz.underlying24 Tryz.infN rfl (by decide) w0.heap.size u5 zs rfl hL5 [.int .i64 c, .int .i64 d, .int .i64 k, .slice an l.length cn] ([c], d :: k :: l) w5.heap.size (RNG.of HNV.out _ _) rfl (one_RN HNV.out) B5.size (fun g hg => Nat.lt_trans (hlt5 g hg) hs5) rfl B5.size (by first | omega | (rw [List.length_append]; simp only [List.length_cons, List.length_nil]; omega)) (by decide) ?_; intro v6 w6 hLB6 hg6))
        have B6 : Below w0.heap.size w0 w6 := B5.trans (grown_below hg6 B5.size (fun k hk => hge5 k hk))
        have hr6 := hr5.grown hg6 (fun e => by have := hlt5 _ e; omega)
        have e6 := hr6.cell (j := 0) rfl
        have f6 := (r0.below B6).cell (j := 0) rfl
        have hge6 : ∀ g, v6.ownBlock = some g → w0.heap.size ≤ g := hLB6.fr
        clear e0 z0
        rcases hc3 with hc3 | hc3
        · have hne : (c1 != c) = false := by simp; omega
          have HE := (show Hid (wiS [c] (d :: k :: l) false ys = (zs ++ [([c], d :: k :: l)]) ++ wiS [c] (d :: k :: l) true (ys.drop (q + 1))) from NXT.out [([c], d :: k :: l)] true (by rw [if_pos ⟨rfl, HCM.out⟩, if_pos (by rw [HX1.out, one_eq]; omega)]; rfl) (by rw [decide_eq_false HCM.out]; rfl))
          clear hc3
          go_wp2_with fail
          go_roundw
          case rel => exact ⟨q + 1, true, zs ++ [([c], d :: k :: l)], by omega, by go_num, rfl, by simp only [List.length_append, List.length_cons, List.length_nil]; omega, hLB6, B6, HE⟩
          case measure => simp [intOf]; omega
        · have hne : (c1 != c) = true := by simp; omega
          have HE := (show Hid (wiS [c] (d :: k :: l) false ys = (zs ++ [([c], d :: k :: l), x]) ++ wiS [c] (d :: k :: l) true (ys.drop (q + 1))) from NXT.out [([c], d :: k :: l), x] true (by rw [if_pos ⟨rfl, HCM.out⟩, if_neg (by rw [HX1.out, one_eq]; omega)]; rfl) (by rw [decide_eq_false HCM.out]; rfl))
          clear hc3
          go_wp2_with (first
            | (refine wl_load rfl _ _ rfl wr.heap.size rfl _ _ hr6 _ Tryz.underlying43 rfl (by kernel_rfl) ?_)
            | (at_builtin; refine wl_push (mov_rng w) rfl _ _ _ rfl 43 4 48 _ Tryz.underlying24 Tryz.infN rfl (by decide) w0.heap.size v6 (zs ++ [([c], d :: k :: l)]) rfl hLB6 [.int .i64 c1, .int .i64 d1, .int .i64 k1, .slice a1 l1.length cp1] x w6.heap.size (RNG.of HSX.out _ _) rfl (one_RN HSX.out) B6.size hLB6.lt rfl B6.size (by first | omega | (rw [List.length_append]; simp only [List.length_cons, List.length_nil]; omega)) (by decide) ?_; intro v8 w8 hLB8 hg8))
          have B8 : Below w0.heap.size w0 w8 := B6.trans (grown_below hg8 B6.size (fun k hk => hge6 k hk))
          go_roundw
          case rel => exact ⟨q + 1, true, (zs ++ [([c], d :: k :: l)]) ++ [x], by omega, by go_num, rfl, by simp only [List.length_append, List.length_cons, List.length_nil]; omega, hLB8, B8, by show _ = _; rw [HE.out]; simp⟩
          case measure => simp [intOf]; omega
    · have hqd : decide ((q : Int) < N) = false := by simp; omega
      have hdr : ys.drop q = [] := List.drop_of_length_le (by have := HN.out; omega)
      cases put with
      | true =>
        have HE := (show Hid (wiS [c] (d :: k :: l) false ys = zs) by show _ = _; rw [hI.out, hdr]; simp [wiS])
        clear hdr
        go_wp2_with fail
        go_ret
        exact FIN.out HE.out hLB hB
      | false =>
        have HE := (show Hid (wiS [c] (d :: k :: l) false ys = zs ++ [([c], d :: k :: l)]) by show _ = _; rw [hI.out, hdr]; simp [wiS])
        have r05 := r0.below hB
        have hlt5 := hLB.lt
        have hge5 := hLB.fr
        clear hdr
        go_wp2_with (first
          | (refine wl_load rfl _ _ rfl w.heap.size rfl _ _ r05 _ Tryz.underlying43 rfl (by kernel_rfl) ?_)
          | (at_builtin; refine wl_push (mov_rng w) rfl _ _ _ rfl 43 4 48 _ Tryz.underlying24 Tryz.infN rfl (by decide) w0.heap.size u5 zs rfl hLB [.int .i64 c, .int .i64 d, .int .i64 k, .slice an l.length cn] ([c], d :: k :: l) wr.heap.size (RNG.of HNV.out _ _) rfl (one_RN HNV.out) hB.size hlt5 rfl hB.size (by first | omega | (rw [List.length_append]; simp only [List.length_cons, List.length_nil]; omega)) (by decide) ?_; intro v6 w6 hLB6 hg6))
        go_ret
        exact FIN.out HE.out hLB6 (hB.trans (grown_below hg6 hB.size (fun k hk => hge5 k hk)))
end Go.Proofs.YtejkkhlblnepeaaGreat
end
