/- The walk over session.Last. -/
import Derived.Test.YtmmcgafmhadioaaXB
import Derived.Test.YtmmcgafmhadioaaXA
import Derived.Test.YtmmcgafmhadioaaHB
import Derived.Test.YtmmcgafmhadioaaHD
section
set_option linter.unusedVariables false
set_option linter.unusedSimpArgs false
namespace Go.Proofs.Ytmmcgafmhadioaa
open Go.RowKit Oct Kvl

theorem isNaN_any (w : World) (n : Int) : Calls Try.prog 80 #[.int .i64 n] w fun e w' => e = .returned (.bool false) ∧ w' = w := by
  have h : (n != n) = false := by simp
  go_enter Try.func80, Try.ntmps80
  go_wp2_with fail
  go_ret
  exact ⟨rfl, rfl⟩
set_option maxRecDepth 10000 in
theorem compareN_any (w : World) (a b : Int) : Calls Try.prog 61 #[.int .i64 a, .int .i64 b] w fun e w' => e = .returned (.int .i64 (cmpL [a] [b])) ∧ w' = w := by
  have h0 := isNaN_any w a
  have h1 := isNaN_any w b
  have H1 := (show Hid (Calls Try.prog 80 #[.int .i64 b] w fun e w' => e = .returned (.bool false) ∧ w' = w) from h1)
  clear h1
  have hc : cmpL [a] [b] = if a < b then -1 else if b < a then 1 else 0 := rfl
  rw [hc]
  clear hc
  by_cases g1 : a < b
  · rw [if_pos g1]
    go_enter Try.func61, Try.ntmps61
    go_upto_region 2 with (go_at_call 80; refine h0.mono ?_; rintro e w ⟨rfl, rfl⟩)
    go_wp2_with (go_at_call 80; refine H1.out.mono ?_; rintro e w ⟨rfl, rfl⟩)
    go_ret
    exact ⟨rfl, rfl⟩
  · rw [if_neg g1]
    have g1' : decide (a < b) = false := by simp; omega
    by_cases g2 : b < a
    · rw [if_pos g2]
      go_enter Try.func61, Try.ntmps61
      go_upto_region 2 with (go_at_call 80; refine h0.mono ?_; rintro e w ⟨rfl, rfl⟩)
      go_wp2_with (go_at_call 80; refine H1.out.mono ?_; rintro e w ⟨rfl, rfl⟩)
      go_ret
      exact ⟨rfl, rfl⟩
    · rw [if_neg g2]
      have g2' : decide (b < a) = false := by simp; omega
      go_enter Try.func61, Try.ntmps61
      go_upto_region 2 with (go_at_call 80; refine h0.mono ?_; rintro e w ⟨rfl, rfl⟩)
      go_wp2_with (go_at_call 80; refine H1.out.mono ?_; rintro e w ⟨rfl, rfl⟩)
      go_ret
      exact ⟨rfl, rfl⟩
set_option maxRecDepth 10000 in
/-- session.keep's comparison. -/
theorem findCN_any (w : World) (r : List Value) (x : PEnt) (h : RSes Any w r x) (cc : Int) :
    Calls Try.prog 60 #[.agg r.toArray, .int .i64 cc] w fun e w' => e = .returned (.int .i64 (cmpL x.1 [cc])) ∧ Below w.heap.size w w' := by
  obtain ⟨c, d, k, a, l, rfl, ha, hx⟩ := h
  have B0 := below_alloc w (.cells #[.int .i64 c, .int .i64 d, .int .i64 k, a] 46)
  have c0 := (Row.new w 46 [.int .i64 c, .int .i64 d, .int .i64 k, a]).cell (j := 0) rfl
  have hC := compareN_any (w.alloc (.cells #[.int .i64 c, .int .i64 d, .int .i64 k, a] 46)) c cc
  have e1 : cmpL x.1 [cc] = cmpL [c] [cc] := by rw [hx]
  rw [e1]
  generalize cmpL [c] [cc] = cv at *
  clear e1 hx
  go_enter Try.func60, Try.ntmps60
  go_wp2_with (go_at_call 61; refine hC.mono ?_; rintro e w2 ⟨rfl, rfl⟩)
  go_ret
  exact ⟨rfl, B0⟩

set_option maxRecDepth 10000 in
set_option maxHeartbeats 2000000 in
/-- slices.BinarySearchFunc. -/
theorem searchN_any (w : World) (v : Value) (ys : List PEnt) (h : RL RSes 4 Any w v ys) (cc : Int) (m : List Int) (hup : up m ys) (hz : ys.length ≤ 64) :
    Calls Try.prog 59 #[v, .int .i64 cc, .func (.func 60) #[] #[]] w fun e w' => e = .returned (.tuple #[.int .i64 (pos [cc] ys), .bool (isIn [cc] ys)]) ∧ Below w.heap.size w w' := by
  by_cases hl : 0 < ys.length
  rotate_left
  · obtain rfl : ys = [] := List.eq_nil_of_length_eq_zero (by omega)
    obtain ⟨ao, cap, rfl, _⟩ := h.form
    go_enter Try.func59, Try.ntmps59
    go_wp2_with fail
    refine wp_loop_rounds 1 ?_; rw [rounds_succ]
    go_wp2_with fail
    go_ret2
    exact ⟨rfl, Below.refl _ _⟩
  obtain ⟨b, off, cap, rfl, hc, hm, _, hb, hx⟩ := h.at hl
  have HX := (show Hid (∀ (i : Nat) (a : PEnt), ys[i]? = some a → ∃ r, r.length = 4 ∧ w.rangeAt b (off + i * 4) r ∧ RSes Any w r a) from hx)
  have HU := (show Hid (up m ys) from hup)
  clear hx h hup hm
  obtain ⟨N, hN⟩ : ∃ N, N = ys.length := ⟨_, rfl⟩
  rw [← hN] at hl hc hz ⊢
  have HN := (show Hid (ys.length = N) from hN.symm)
  clear hN
  have HC := (show Hid (∀ (i : Nat) (a : PEnt), ys[i]? = some a → ∃ c1 d1 k1 s1, w.rangeAt b (off + i * 4) [.int .i64 c1, .int .i64 d1, .int .i64 k1, s1] ∧ ∀ u, Below w.heap.size w u → Calls Try.prog 60 #[.agg #[.int .i64 c1, .int .i64 d1, .int .i64 k1, s1], .int .i64 cc] u fun e w' => e = .returned (.int .i64 (cmpL a.1 [cc])) ∧ Below u.heap.size u w') from fun i a ha => by
    obtain ⟨r, _, hr, c1, d1, k1, s1, l1, rfl, t1, t2⟩ := HX.out i a ha
    exact ⟨c1, d1, k1, s1, hr, fun u hu => findCN_any u [.int .i64 c1, .int .i64 d1, .int .i64 k1, s1] a (mov_ses _ _ _ _ _ _ ⟨_, _, _, _, _, rfl, t1, t2⟩ hu.size (Mv.below hu)) cc⟩)
  clear HX
  go_enter Try.func59, Try.ntmps59
  go_wp2_with fail
  go_loopw [9, 10] (fun s9 s10 wr => ∃ lo hi : Nat, s9 = .int .i64 lo ∧ s10 = .int .i64 hi ∧ lo ≤ hi ∧ hi ≤ N ∧ Below w.heap.size w wr ∧
    Hid ((∀ (t : Nat) (x : PEnt), t < lo → ys[t]? = some x → cmpL x.1 [cc] < 0) ∧ (∀ (t : Nat) (x : PEnt), hi ≤ t → ys[t]? = some x → 0 ≤ cmpL x.1 [cc]))) (fun s9 s10 _ => (intOf s10).toNat - (intOf s9).toNat)
  case atStart => exact ⟨0, N, rfl, rfl, by omega, by omega, Below.refl _ _, ⟨fun t x ht => by omega, fun t x h1 h2 => by have := (List.getElem?_eq_some_iff.1 h2).1; have := HN.out; omega⟩⟩
  case round =>
    obtain ⟨lo, hi, rfl, rfl, hlh, hin, hB, hI⟩ := hrel
    by_cases hlt : lo < hi
    · obtain ⟨x, hx⟩ : ∃ x, ys[(lo + hi) / 2]? = some x := ⟨_, List.getElem?_eq_getElem (by have := HN.out; omega)⟩
      obtain ⟨c1, d1, k1, s1, hrng, hcall⟩ := HC.out _ x hx
      have hrng := rangeAt_block hrng (hB.block b hb)
      have hc1 := hcall wr hB
      have HXX := (show Hid (ys[(lo + hi) / 2]? = some x) from hx)
      obtain ⟨cv, hcv⟩ : ∃ c, cmpL x.1 [cc] = c := ⟨_, rfl⟩
      rw [hcv] at hc1
      have HV := (show Hid (cmpL x.1 [cc] = cv) from hcv)
      clear hx hcv hcall
      by_cases hcl : cv < 0
      · go_wp2_with (first
          | (refine wpList_load_mid rfl _ _ rfl b (off + (lo + hi) / 2 * 4) rfl [.int .i64 c1, .int .i64 d1, .int .i64 k1, s1] _ hrng Try.underlying46 rfl (by kernel_rfl) ?_)
          | (go_at_call 60; refine hc1.mono ?_; rintro e w2 ⟨rfl, hb2⟩))
        go_roundw
        case rel =>
          refine ⟨(lo + hi) / 2 + 1, hi, by rw [show ((lo : Int) + (hi : Int)) / 2 + 1 = (((lo + hi) / 2 + 1 : Nat) : Int) by omega], rfl, by omega, hin, below_and hB (Nat.le_refl _) hb2, ⟨fun t y ht hy => ?_, hI.out.2⟩⟩
          rcases Nat.lt_or_ge t ((lo + hi) / 2) with h1 | h1
          · exact cmp_trans (up_get HU.out hy HXX.out h1) (by rw [HV.out]; exact hcl)
          · obtain rfl : t = (lo + hi) / 2 := by omega
            rw [HXX.out] at hy
            injection hy with hy
            rw [← hy, HV.out]; exact hcl
        case measure => simp [intOf]; omega
      · go_wp2_with (first
          | (refine wpList_load_mid rfl _ _ rfl b (off + (lo + hi) / 2 * 4) rfl [.int .i64 c1, .int .i64 d1, .int .i64 k1, s1] _ hrng Try.underlying46 rfl (by kernel_rfl) ?_)
          | (go_at_call 60; refine hc1.mono ?_; rintro e w2 ⟨rfl, hb2⟩))
        go_roundw
        case rel =>
          refine ⟨lo, (lo + hi) / 2, rfl, by rw [show ((lo : Int) + (hi : Int)) / 2 = (((lo + hi) / 2 : Nat) : Int) by omega], by omega, by omega, below_and hB (Nat.le_refl _) hb2, ⟨hI.out.1, fun t y ht hy => ?_⟩⟩
          rcases Nat.lt_or_ge ((lo + hi) / 2) t with h1 | h1
          · rcases Int.lt_or_le (cmpL y.1 [cc]) 0 with h2 | h2
            · have h3 := cmp_trans (up_get HU.out HXX.out hy h1) h2
              rw [HV.out] at h3
              omega
            · exact h2
          · obtain rfl : t = (lo + hi) / 2 := by omega
            rw [HXX.out] at hy
            injection hy with hy
            rw [← hy, HV.out]; omega
        case measure => simp [intOf]; omega
    · obtain rfl : lo = hi := by omega
      have hp : pos [cc] ys = lo := pos_of (by have := HN.out; omega) (fun k e hk he => hI.out.1 k e hk he) (fun e he => by have := hI.out.2 lo e (Nat.le_refl _) he; omega)
      by_cases hlN : lo < N
      · obtain ⟨x, hx⟩ : ∃ x, ys[lo]? = some x := ⟨_, List.getElem?_eq_getElem (by have := HN.out; omega)⟩
        obtain ⟨c1, d1, k1, s1, hrng, hcall⟩ := HC.out _ x hx
        have hrng := rangeAt_block hrng (hB.block b hb)
        have hc1 := hcall wr hB
        have HI := (show Hid (isIn [cc] ys = decide (cmpL x.1 [cc] = 0)) from isIn_at (by rw [hp]; exact hx))
        have HP := (show Hid (pos [cc] ys = lo) from hp)
        clear hx hp hcall
        go_wp2_with (first
          | (refine wl_load_mid_w rfl _ _ rfl b (off + lo * 4) rfl [.int .i64 c1, .int .i64 d1, .int .i64 k1, s1] _ hrng Try.underlying46 rfl (by kernel_rfl) ?_)
          | (go_at_call 60; refine hc1.mono ?_; rintro e w2 ⟨rfl, hb2⟩))
        go_ret2
        refine ⟨?_, below_and hB (Nat.le_refl _) hb2⟩
        rw [HP.out, HI.out]
        rfl
      · have HI := (show Hid (isIn [cc] ys = false) from isIn_no (by rw [hp, List.getElem?_eq_none (by have := HN.out; omega)]))
        have HP := (show Hid (pos [cc] ys = lo) from hp)
        have hd : decide ((lo : Int) < N) = false := by simp; omega
        clear hp
        go_wp2_with fail
        go_ret2
        refine ⟨?_, hB⟩
        rw [HP.out, HI.out]
        rfl
end Go.Proofs.Ytmmcgafmhadioaa
end

section
set_option linter.unusedVariables false
set_option linter.unusedSimpArgs false
namespace Go.Proofs.Ytmmcgafmhadioaa
open Go.RowKit Oct Kvl

/-- The end of a call that gives a number and a result. -/
def Rl (w : World) (x : Int × Int × List Int) (e : Ending) (w' : World) : Prop :=
  ∃ vv, e = .returned (.tuple #[.int .i64 x.1, .agg #[.int .i64 x.2.1, vv]]) ∧ OT (From w.heap.size) w' vv x.2.2 ∧ Below w.heap.size w w'

set_option maxRecDepth 10000 in
set_option maxHeartbeats 4000000 in
/-- session.Last. -/
theorem last_any (w : World) (r : List Value) (a : PApp) (h : RApp Any w r a) (hz : szL 48 szN a.2.2.2) (cc : Int) :
    Calls Try.prog 6 #[.agg r.toArray, .int .i64 cc] w (Rl w (lasN a.2.2.2 cc)) := by
  obtain ⟨ve, vl, vs, rfl, _, _, h3⟩ := h
  generalize a.2.2.2 = ys at *
  obtain ⟨w2, hw2⟩ : ∃ w2, w2 = (w.alloc (.cells #[.int .i64 a.1, ve, vl, vs] 31)).alloc (.cells #[.int .i64 0, .slice none 0 0] 24) := ⟨_, rfl⟩
  have ra : Row w2 w.heap.size 31 [.int .i64 a.1, ve, vl, vs] := by rw [hw2]; exact rowA (Row.new w 31 _) _
  have rr : Row w2 (w.heap.size + 1) 24 [.int .i64 0, .slice none 0 0] := by
    rw [hw2]
    have := Row.new (w.alloc (.cells #[.int .i64 a.1, ve, vl, vs] 31)) 24 [.int .i64 0, .slice none 0 0]
    simpa using this
  have hB : Below w.heap.size w w2 := by rw [hw2]; exact ((Below.refl _ w).alloc (Nat.le_refl _) _).alloc (by simp) _
  have hsz : w2.heap.size = w.heap.size + 2 := by rw [hw2]; simp
  have HZ := (show Hid (∀ y ∈ ys, szN y) from hz.2)
  have h32 := h3.mv mov_ses hB.size (Mv.below hB)
  clear h3 hz
  have c3 := ra.cell (j := 3) rfl
  have fin0 : ∀ {w5 w6 : World}, Below w2.heap.size w2 w5 → w5.grownBy w6 (some (w.heap.size + 1)) → lasN ys cc = (0, 0, []) → Rl w (lasN ys cc) (.returned (.tuple #[.int .i64 0, .agg #[.int .i64 0, .slice none 0 0]])) w6 := by
    intro w5 w6 hb hg e
    have hB5 := below_and hB (Nat.le_refl _) hb
    rw [e]
    exact ⟨_, rfl, OT.nil _ _, hB5.trans (grown_below hg hB5.size (fun k hk => by cases hk; omega))⟩
  by_cases hl : 0 < ys.length
  rotate_left
  · obtain rfl : ys = [] := List.eq_nil_of_length_eq_zero (by omega)
    obtain ⟨ao, cap, hvs, _⟩ := h32.form
    have hvs : vs = .slice ao 0 cap := hvs
    subst hvs
    go_enter Try.func6, Try.ntmps6
    go_upto_region 1 with fail
    rw [← hw2]
    clear hw2
    go_wp2_with fail
    refine wp_loop_rounds 1 ?_; rw [rounds_succ]
    go_wp2_with (refine wl_store rfl _ _ _ rfl (w.heap.size + 1) [.int .i64 0, .slice none 0 0] rfl rfl _ _ rr rfl (by kernel_rfl) (one_res rfl) ?_; intro w7 hr7 hg7)
    refine bodyPost_ret (results_tc rfl _ _ (w.heap.size + 1) _ _ (0, 0) _ (by rfl) hr7.out Try.underlying24 rfl (by kernel_rfl)) rfl ?_
    exact fin0 (Below.refl _ _) hg7 rfl
  obtain ⟨b, off, cap, rfl, hc, hm, _, hb, hx⟩ := h32.at hl
  have HX := (show Hid (∀ (i : Nat) (a : PEnt), ys[i]? = some a → ∃ r, r.length = 4 ∧ w2.rangeAt b (off + i * 4) r ∧ RSes Any w2 r a) from hx)
  have hlm : (ys.length : Int) ≤ 9223372036854775807 := by unfold maxLen at hm; omega
  have HS := (show Hid (w2.heap.size = w.heap.size + 2) from hsz)
  have FIN0 := (show Hid (∀ {w5 w6 : World}, Below w2.heap.size w2 w5 → w5.grownBy w6 (some (w.heap.size + 1)) → lasN ys cc = (0, 0, []) → Rl w (lasN ys cc) (.returned (.tuple #[.int .i64 0, .agg #[.int .i64 0, .slice none 0 0]])) w6) from fin0)
  clear hx h32 hm hsz fin0
  obtain ⟨N, hN⟩ : ∃ n, n = ys.length := ⟨_, rfl⟩
  rw [← hN] at hlm hl hc c3 ra ⊢
  rw [← hN] at hw2
  have HN := (show Hid (ys.length = N) from hN.symm)
  clear hN
  go_enter Try.func6, Try.ntmps6
  go_upto_region 1 with fail
  rw [← hw2]
  clear hw2
  go_wp2_with fail
  go_loopw [11] (fun i wr => ∃ q : Nat, q ≤ N ∧ i = .int .i64 q ∧ Below w2.heap.size w2 wr ∧ Hid (∀ (j : Nat) (y : PEnt), j < q → ys[j]? = some y → y.1 ≠ [cc])) (fun i _ => N - (intOf i).toNat)
  case atStart => exact ⟨0, by omega, rfl, Below.refl _ _, fun j y hj => by omega⟩
  case round =>
    obtain ⟨q, hq, rfl, hBr, hI⟩ := hrel
    by_cases hql : q < N
    · obtain ⟨x, hx⟩ : ∃ x, ys[q]? = some x := ⟨_, List.getElem?_eq_getElem (by have := HN.out; omega)⟩
      obtain ⟨r, _, hrng, c1, d1, k1, s1, l1, rfl, t1, t2⟩ := HX.out q x hx
      have hrng := rangeAt_block hrng (hBr.block b hb)
      obtain ⟨a1, cp1, rfl, hc1⟩ := t1.form
      have hrow0 := Row.new wr 46 [.int .i64 0, .int .i64 0, .int .i64 0, .slice none 0 0]
      have HP := (show Hid (x = ([c1], d1 :: k1 :: l1)) from t2)
      have HXX := (show Hid (ys[q]? = some x) from hx)
      have hone := onN4 (c := c1) (d := d1) (k := k1) t1.one
      have hzx : szT l1 := by have h := HZ.out x (List.mem_of_getElem? hx); rw [t2] at h; exact h
      have rrr := rr.below hBr
      have hne : ¬ (wr.heap.size = w.heap.size + 1) := by have := hBr.size; have := HS.out; omega
      clear hx t2
      by_cases g1 : c1 = cc
      · have g1' : (c1 == cc) = true := by simp [g1]
        have HH := (show Hid (lasN ys cc = (d1, k1, l1)) by
          show _ = _
          unfold lasN
          rw [fnd_at hI.out HXX.out (by rw [HP.out, g1]), HP.out]
          rfl)
        clear g1
        have HCR := (show Hid (∀ u, Below wr.heap.size wr u → Calls Try.prog 14 #[.agg #[.int .i64 k1, .slice a1 l1.length cp1]] u fun e w' => ∃ ax cx, e = .returned (.agg #[.int .i64 k1, .slice ax l1.length cx]) ∧ OT (From u.heap.size) w' (.slice ax l1.length cx) l1 ∧ Below u.heap.size u w') from fun u hu => (cloneResult_any u k1 _ l1 (t1.1.below (below_and hBr (Nat.le_refl _) hu)) hzx).mono fun e w' ⟨v', e1, e2, e3⟩ => by
          obtain ⟨ax, cx, rfl, _⟩ := e2.rt.form
          exact ⟨ax, cx, e1, e2, e3⟩)
        clear t1
        generalize l1.length = L1 at *
        go_upto_region 5 with (first
          | (refine wpList_load_mid rfl _ _ rfl b (off + q * 4) rfl [.int .i64 c1, .int .i64 d1, .int .i64 k1, .slice a1 L1 cp1] _ hrng Try.underlying46 rfl (by kernel_rfl) ?_)
          | (refine wl_store rfl _ _ _ rfl wr.heap.size [.int .i64 c1, .int .i64 d1, .int .i64 k1, .slice a1 L1 cp1] rfl rfl _ _ hrow0 rfl (by kernel_rfl) hone ?_; intro w5 hr5 hg5; have hb5 : Below wr.heap.size wr w5 := (below_alloc wr _).trans (grown_below hg5 (by simp) (fun k hk => by cases hk; exact Nat.le_refl _)); have e0 := hr5.out.cell (j := 0) rfl))
        have SK := (show Hid (∀ u, Below w5.heap.size w5 u → u.cell? ⟨wr.heap.size, 1, none⟩ = some (.int .i64 d1) ∧ u.cell? ⟨wr.heap.size, 2, none⟩ = some (.int .i64 k1) ∧ u.cell? ⟨wr.heap.size, 3, none⟩ = some (.slice a1 L1 cp1)) from fun u hu => ⟨(hr5.out.below hu).cell (j := 1) rfl, (hr5.out.below hu).cell (j := 2) rfl, (hr5.out.below hu).cell (j := 3) rfl⟩)
        have HCR2 := (show Hid (∀ u, Below w5.heap.size w5 u → Calls Try.prog 14 #[.agg #[.int .i64 k1, .slice a1 L1 cp1]] u fun e w' => ∃ ax cx, e = .returned (.agg #[.int .i64 k1, .slice ax L1 cx]) ∧ OT (From u.heap.size) w' (.slice ax L1 cx) l1 ∧ Below u.heap.size u w' ∧ Below w5.heap.size w5 w') from fun u hu => (HCR.out u (below_and hb5 (Nat.le_refl _) hu)).mono fun e w' ⟨ax, cx, e1, e2, e3⟩ => ⟨ax, cx, e1, e2, e3, below_and hu (Nat.le_refl _) e3⟩)
        obtain ⟨e1, e2, e3⟩ := SK.out w5 (Below.refl _ _)
        have hdw : Below w5.heap.size w5 w5.drew := ⟨rfl, rfl, rfl, Nat.le_refl _, fun _ _ => rfl⟩
        have rr5 := rrr.below hb5
        generalize hgb : wr.heap.size = gb at *
        go_region_held3 (fun u => u.cell? ⟨gb, 1, none⟩ = some (.int .i64 d1) ∧ u.cell? ⟨gb, 2, none⟩ = some (.int .i64 k1) ∧ u.cell? ⟨gb, 3, none⟩ = some (.slice a1 L1 cp1))
          (first | exact SK.out _ (by assumption) | exact ⟨set2_keep (SK.out w8 hB8).1 hne, set2_keep (SK.out w8 hB8).2.1 hne, set2_keep (SK.out w8 hB8).2.2 hne⟩ | go_keep)
          (first | (go_at_call 14; refine (HCR2.out _ (by first | assumption | exact Below.refl _ _)).mono ?_; rintro e w8 ⟨ax8, cx8, rfl, t8, hb8, hB8⟩; have rr8 := rr5.below hB8; have z0 := rr8.cell (j := 0) rfl; have z1 := rr8.cell (j := 1) rfl; have y0 := rr8.frozen 0; have y1 := rr8.frozen 1))
        have hr9 := (rr8.set 0 (.int .i64 k1)).set 1 (.slice ax8 L1 cx8)
        have hg9 := grown_trans (grown_set w8 (w.heap.size + 1) 0 (.int .i64 k1)) (grown_set _ (w.heap.size + 1) 1 (.slice ax8 L1 cx8)) (.inl rfl)
        go_wp2_with fail
        refine bodyPost_ret (results_tc rfl _ _ (w.heap.size + 1) _ _ (0, 0) _ (by rfl) hr9 Try.underlying24 rfl (by kernel_rfl)) rfl ?_
        subst hgb
        have t8 : OT (From w5.heap.size) w8 (.slice ax8 L1 cx8) l1 := t8
        have hB8' := below_and (below_and hB (Nat.le_refl _) hBr) (Nat.le_refl _) (below_and hb5 (Nat.le_refl _) hB8)
        rw [HH.out]
        have hs5 := hb5.size
        have hsr := hBr.size
        have hs2 := HS.out
        exact ⟨_, rfl, t8.mv (Mv.from hg9 (by omega) (by omega)), hB8'.trans (grown_below hg9 hB8'.size (fun k hk => by cases hk; omega))⟩
      · have g1' : (c1 == cc) = false := by simp [g1]
        have G1 := (show Hid (¬ c1 = cc) from g1)
        clear g1
        go_wp2_with (first
          | (refine wpList_load_mid rfl _ _ rfl b (off + q * 4) rfl [.int .i64 c1, .int .i64 d1, .int .i64 k1, .slice a1 l1.length cp1] _ hrng Try.underlying46 rfl (by kernel_rfl) ?_)
          | (refine wl_store rfl _ _ _ rfl wr.heap.size [.int .i64 c1, .int .i64 d1, .int .i64 k1, .slice a1 l1.length cp1] rfl rfl _ _ hrow0 rfl (by kernel_rfl) hone ?_; intro w5 hr5 hg5; have hb5 : Below wr.heap.size wr w5 := (below_alloc wr _).trans (grown_below hg5 (by simp) (fun k hk => by cases hk; exact Nat.le_refl _)); have e0 := hr5.out.cell (j := 0) rfl))
        go_roundw
        case rel =>
          refine ⟨q + 1, by omega, by go_num, below_and hBr (Nat.le_refl _) hb5, fun j y hj hy => ?_⟩
          rcases Nat.lt_or_ge j q with h1 | h1
          · exact hI.out j y h1 hy
          · obtain rfl : j = q := by omega
            rw [HXX.out] at hy
            cases hy
            rw [HP.out]
            intro e
            exact G1.out (by simpa using e)
        case measure => simp [intOf]; omega
    · have hqd : decide ((q : Int) < N) = false := by simp; omega
      have HH := (show Hid (lasN ys cc = (0, 0, [])) by
        show _ = _
        unfold lasN
        rw [fnd_no fun j y hy => hI.out j y (by have := HN.out; have := (List.getElem?_eq_some_iff.1 hy).1; omega) hy])
      have rrr := rr.below hBr
      go_wp2_with (refine wl_store rfl _ _ _ rfl (w.heap.size + 1) [.int .i64 0, .slice none 0 0] rfl rfl _ _ rrr rfl (by kernel_rfl) (one_res rfl) ?_; intro w7 hr7 hg7)
      refine bodyPost_ret (results_tc rfl _ _ (w.heap.size + 1) _ _ (0, 0) _ (by rfl) hr7.out Try.underlying24 rfl (by kernel_rfl)) rfl ?_
      exact FIN0.out hBr hg7 HH.out
end Go.Proofs.Ytmmcgafmhadioaa
end
