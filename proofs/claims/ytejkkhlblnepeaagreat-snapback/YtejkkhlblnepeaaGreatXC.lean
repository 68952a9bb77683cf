/- The walk over session.keep. -/
import Derived.Test.YtejkkhlblnepeaaGreatXB
import Derived.Test.YtejkkhlblnepeaaGreatXA
import Derived.Test.YtejkkhlblnepeaaGreatHA
import Derived.Test.YtejkkhlblnepeaaGreatHD
import Derived.Deep.RegionLaw
import Derived.Deep.QuietTactic
import Derived.BigQuiet
section
set_option linter.unusedVariables false
set_option linter.unusedSimpArgs false
namespace Go.Proofs.YtejkkhlblnepeaaGreat
open Go.RowKit Oct Kvl

theorem isNaN_any (w : World) (n : Int) : Calls Tryz.prog 119 #[.int .i64 n] w fun e w' => e = .returned (.bool false) ∧ w' = w := by
  have h : (n != n) = false := by simp
  go_enter Tryz.func119, Tryz.ntmps119
  go_wp2_with fail
  go_ret
  exact ⟨rfl, rfl⟩
set_option maxRecDepth 10000 in
theorem compareN_any (w : World) (a b : Int) : Calls Tryz.prog 98 #[.int .i64 a, .int .i64 b] w fun e w' => e = .returned (.int .i64 (cmpL [a] [b])) ∧ w' = w := by
  have h0 := isNaN_any w a
  have h1 := isNaN_any w b
  have H1 := (show Hid (Calls Tryz.prog 119 #[.int .i64 b] w fun e w' => e = .returned (.bool false) ∧ w' = w) from h1)
  clear h1
  have hc : cmpL [a] [b] = if a < b then -1 else if b < a then 1 else 0 := rfl
  rw [hc]
  clear hc
  by_cases g1 : a < b
  · rw [if_pos g1]
    go_enter Tryz.func98, Tryz.ntmps98
    go_upto_region 2 with (go_at_call 119; refine h0.mono ?_; rintro e w ⟨rfl, rfl⟩)
    go_wp2_with (go_at_call 119; refine H1.out.mono ?_; rintro e w ⟨rfl, rfl⟩)
    go_ret
    exact ⟨rfl, rfl⟩
  · rw [if_neg g1]
    have g1' : decide (a < b) = false := by simp; omega
    by_cases g2 : b < a
    · rw [if_pos g2]
      go_enter Tryz.func98, Tryz.ntmps98
      go_upto_region 2 with (go_at_call 119; refine h0.mono ?_; rintro e w ⟨rfl, rfl⟩)
      go_wp2_with (go_at_call 119; refine H1.out.mono ?_; rintro e w ⟨rfl, rfl⟩)
      go_ret
      exact ⟨rfl, rfl⟩
    · rw [if_neg g2]
      have g2' : decide (b < a) = false := by simp; omega
      go_enter Tryz.func98, Tryz.ntmps98
      go_upto_region 2 with (go_at_call 119; refine h0.mono ?_; rintro e w ⟨rfl, rfl⟩)
      go_wp2_with (go_at_call 119; refine H1.out.mono ?_; rintro e w ⟨rfl, rfl⟩)
      go_ret
      exact ⟨rfl, rfl⟩
set_option maxRecDepth 10000 in
/-- session.keep's comparison. -/
theorem findCN_any (w : World) (r : List Value) (x : PEnt) (h : RSes Any w r x) (cc : Int) :
    Calls Tryz.prog 97 #[.agg r.toArray, .int .i64 cc] w fun e w' => e = .returned (.int .i64 (cmpL x.1 [cc])) ∧ Below w.heap.size w w' := by
  obtain ⟨c, d, k, a, l, rfl, ha, hx⟩ := h
  have B0 := below_alloc w (.cells #[.int .i64 c, .int .i64 d, .int .i64 k, a] 43)
  have c0 := (Row.new w 43 [.int .i64 c, .int .i64 d, .int .i64 k, a]).cell (j := 0) rfl
  have hC := compareN_any (w.alloc (.cells #[.int .i64 c, .int .i64 d, .int .i64 k, a] 43)) c cc
  have e1 : cmpL x.1 [cc] = cmpL [c] [cc] := by rw [hx]
  rw [e1]
  generalize cmpL [c] [cc] = cv at *
  clear e1 hx
  go_enter Tryz.func97, Tryz.ntmps97
  go_wp2_with (go_at_call 98; refine hC.mono ?_; rintro e w2 ⟨rfl, rfl⟩)
  go_ret
  exact ⟨rfl, B0⟩

set_option maxRecDepth 10000 in
set_option maxHeartbeats 2000000 in
/-- slices.BinarySearchFunc. -/
theorem searchN_any (w : World) (v : Value) (ys : List PEnt) (h : RL RSes 4 Any w v ys) (cc : Int) (m : List Int) (hup : up m ys) (hz : ys.length ≤ 64) :
    Calls Tryz.prog 96 #[v, .int .i64 cc, .func (.func 97) #[] #[]] w fun e w' => e = .returned (.tuple #[.int .i64 (pos [cc] ys), .bool (isIn [cc] ys)]) ∧ Below w.heap.size w w' := by
  by_cases hl : 0 < ys.length
  rotate_left
  · obtain rfl : ys = [] := List.eq_nil_of_length_eq_zero (by omega)
    obtain ⟨ao, cap, rfl, _⟩ := h.form
    go_enter Tryz.func96, Tryz.ntmps96
    go_wp2_with fail
    refine wp_loop_rounds 1 ?_; rw [rounds_succ]
    go_wp2_with fail
    go_ret2
    exact ⟨rfl, Below.refl _ _⟩
  obtain ⟨b, off, cap, rfl, hc, hm, _, hb, hx⟩ := h.at hl
  have HX := (show Hid (∀ (i : Nat) (a : PEnt), ys[i]? = some a → ∃ r, r.length = 4 ∧ w.rangeAt b (off + i * 4) r ∧ RSes Any w r a) from hx)
  have HU := (show Hid (up m ys) from hup)
  clear hx h hup hm
  obtain ⟨N, hN⟩ : ∃ N, N = ys.length := ⟨_, rfl⟩
  rw [← hN] at hl hc hz ⊢
  have HN := (show Hid (ys.length = N) from hN.symm)
  clear hN
  have HC := (show Hid (∀ (i : Nat) (a : PEnt), ys[i]? = some a → ∃ c1 d1 k1 s1, w.rangeAt b (off + i * 4) [.int .i64 c1, .int .i64 d1, .int .i64 k1, s1] ∧ ∀ u, Below w.heap.size w u → Calls Tryz.prog 97 #[.agg #[.int .i64 c1, .int .i64 d1, .int .i64 k1, s1], .int .i64 cc] u fun e w' => e = .returned (.int .i64 (cmpL a.1 [cc])) ∧ Below u.heap.size u w') from fun i a ha => by
    obtain ⟨r, _, hr, c1, d1, k1, s1, l1, rfl, t1, t2⟩ := HX.out i a ha
    exact ⟨c1, d1, k1, s1, hr, fun u hu => findCN_any u [.int .i64 c1, .int .i64 d1, .int .i64 k1, s1] a (mov_ses _ _ _ _ _ _ ⟨_, _, _, _, _, rfl, t1, t2⟩ hu.size (Mv.below hu)) cc⟩)
  clear HX
  go_enter Tryz.func96, Tryz.ntmps96
  go_wp2_with fail
  go_loopw [9, 10] (fun s9 s10 wr => ∃ lo hi : Nat, s9 = .int .i64 lo ∧ s10 = .int .i64 hi ∧ lo ≤ hi ∧ hi ≤ N ∧ Below w.heap.size w wr ∧
    Hid ((∀ (t : Nat) (x : PEnt), t < lo → ys[t]? = some x → cmpL x.1 [cc] < 0) ∧ (∀ (t : Nat) (x : PEnt), hi ≤ t → ys[t]? = some x → 0 ≤ cmpL x.1 [cc]))) (fun s9 s10 _ => (intOf s10).toNat - (intOf s9).toNat)
  case atStart => exact ⟨0, N, rfl, rfl, by omega, by omega, Below.refl _ _, ⟨fun t x ht => by omega, fun t x h1 h2 => by have := (List.getElem?_eq_some_iff.1 h2).1; have := HN.out; omega⟩⟩
  case round =>
    obtain ⟨lo, hi, rfl, rfl, hlh, hin, hB, hI⟩ := hrel
    by_cases hlt : lo < hi
    · obtain ⟨x, hx⟩ : ∃ x, ys[(lo + hi) / 2]? = some x := ⟨_, List.getElem?_eq_getElem (by have := HN.out; omega)⟩
      obtain ⟨c1, d1, k1, s1, hrng, hcall⟩ := HC.out _ x hx
      have hrng := rangeAt_block hrng (hB.block b hb)
      have hc1 := hcall wr hB
      have HXX := (show Hid (ys[(lo + hi) / 2]? = some x) from hx)
      obtain ⟨cv, hcv⟩ : ∃ c, cmpL x.1 [cc] = c := ⟨_, rfl⟩
      rw [hcv] at hc1
      have HV := (show Hid (cmpL x.1 [cc] = cv) from hcv)
      clear hx hcv hcall
      by_cases hcl : cv < 0
      · go_wp2_with (first
          | (refine wpList_load_mid rfl _ _ rfl b (off + (lo + hi) / 2 * 4) rfl [.int .i64 c1, .int .i64 d1, .int .i64 k1, s1] _ hrng Tryz.underlying43 rfl (by kernel_rfl) ?_)
          | (go_at_call 97; refine hc1.mono ?_; rintro e w2 ⟨rfl, hb2⟩))
        go_roundw
        case rel =>
          refine ⟨(lo + hi) / 2 + 1, hi, by rw [show ((lo : Int) + (hi : Int)) / 2 + 1 = (((lo + hi) / 2 + 1 : Nat) : Int) by omega], rfl, by omega, hin, below_and hB (Nat.le_refl _) hb2, ⟨fun t y ht hy => ?_, hI.out.2⟩⟩
          rcases Nat.lt_or_ge t ((lo + hi) / 2) with h1 | h1
          · exact cmp_trans (up_get HU.out hy HXX.out h1) (by rw [HV.out]; exact hcl)
          · obtain rfl : t = (lo + hi) / 2 := by omega
            rw [HXX.out] at hy
            injection hy with hy
            rw [← hy, HV.out]; exact hcl
        case measure => simp [intOf]; omega
      · go_wp2_with (first
          | (refine wpList_load_mid rfl _ _ rfl b (off + (lo + hi) / 2 * 4) rfl [.int .i64 c1, .int .i64 d1, .int .i64 k1, s1] _ hrng Tryz.underlying43 rfl (by kernel_rfl) ?_)
          | (go_at_call 97; refine hc1.mono ?_; rintro e w2 ⟨rfl, hb2⟩))
        go_roundw
        case rel =>
          refine ⟨lo, (lo + hi) / 2, rfl, by rw [show ((lo : Int) + (hi : Int)) / 2 = (((lo + hi) / 2 : Nat) : Int) by omega], by omega, by omega, below_and hB (Nat.le_refl _) hb2, ⟨hI.out.1, fun t y ht hy => ?_⟩⟩
          rcases Nat.lt_or_ge ((lo + hi) / 2) t with h1 | h1
          · rcases Int.lt_or_le (cmpL y.1 [cc]) 0 with h2 | h2
            · have h3 := cmp_trans (up_get HU.out HXX.out hy h1) h2
              rw [HV.out] at h3
              omega
            · exact h2
          · obtain rfl : t = (lo + hi) / 2 := by omega
            rw [HXX.out] at hy
            injection hy with hy
            rw [← hy, HV.out]; omega
        case measure => simp [intOf]; omega
    · obtain rfl : lo = hi := by omega
      have hp : pos [cc] ys = lo := pos_of (by have := HN.out; omega) (fun k e hk he => hI.out.1 k e hk he) (fun e he => by have := hI.out.2 lo e (Nat.le_refl _) he; omega)
      by_cases hlN : lo < N
      · obtain ⟨x, hx⟩ : ∃ x, ys[lo]? = some x := ⟨_, List.getElem?_eq_getElem (by have := HN.out; omega)⟩
        obtain ⟨c1, d1, k1, s1, hrng, hcall⟩ := HC.out _ x hx
        have hrng := rangeAt_block hrng (hB.block b hb)
        have hc1 := hcall wr hB
        have HI := (show Hid (isIn [cc] ys = decide (cmpL x.1 [cc] = 0)) from isIn_at (by rw [hp]; exact hx))
        have HP := (show Hid (pos [cc] ys = lo) from hp)
        clear hx hp hcall
        go_wp2_with (first
          | (refine wl_load_mid_w rfl _ _ rfl b (off + lo * 4) rfl [.int .i64 c1, .int .i64 d1, .int .i64 k1, s1] _ hrng Tryz.underlying43 rfl (by kernel_rfl) ?_)
          | (go_at_call 97; refine hc1.mono ?_; rintro e w2 ⟨rfl, hb2⟩))
        go_ret2
        refine ⟨?_, below_and hB (Nat.le_refl _) hb2⟩
        rw [HP.out, HI.out]
        rfl
      · have HI := (show Hid (isIn [cc] ys = false) from isIn_no (by rw [hp, List.getElem?_eq_none (by have := HN.out; omega)]))
        have HP := (show Hid (pos [cc] ys = lo) from hp)
        have hd : decide ((lo : Int) < N) = false := by simp; omega
        clear hp
        go_wp2_with fail
        go_ret2
        refine ⟨?_, hB⟩
        rw [HP.out, HI.out]
        rfl
end Go.Proofs.YtejkkhlblnepeaaGreat
end

section
set_option linter.unusedVariables false
set_option linter.unusedSimpArgs false
namespace Go.Proofs.YtejkkhlblnepeaaGreat
open Go.RowKit Oct Kvl

/-- The end of a call that gives a number and a result. -/
def Rl (w : World) (x : Int × Int × List Int) (e : Ending) (w' : World) : Prop :=
  ∃ vv, e = .returned (.tuple #[.int .i64 x.1, .agg #[.int .i64 x.2.1, vv]]) ∧ OT (From w.heap.size) w' vv x.2.2 ∧ Below w.heap.size w w'

set_option maxRecDepth 10000 in
set_option maxHeartbeats 4000000 in
/-- session.Last. -/
theorem last_any (w : World) (r : List Value) (a : PApp) (h : RApp Any w r a) (hz : szL 48 szN a.2.2.2) (cc : Int) :
    Calls Tryz.prog 10 #[.agg r.toArray, .int .i64 cc] w (Rl w (lasN a.2.2.2 cc)) := by
  obtain ⟨ve, vl, vs, rfl, _, _, h3⟩ := h
  generalize a.2.2.2 = ys at *
  obtain ⟨w2, hw2⟩ : ∃ w2, w2 = (w.alloc (.cells #[.int .i64 a.1, ve, vl, vs] 26)).alloc (.cells #[.int .i64 0, .slice none 0 0] 34) := ⟨_, rfl⟩
  have ra : Row w2 w.heap.size 26 [.int .i64 a.1, ve, vl, vs] := by rw [hw2]; exact rowA (Row.new w 26 _) _
  have rr : Row w2 (w.heap.size + 1) 34 [.int .i64 0, .slice none 0 0] := by
    rw [hw2]
    have := Row.new (w.alloc (.cells #[.int .i64 a.1, ve, vl, vs] 26)) 34 [.int .i64 0, .slice none 0 0]
    simpa using this
  have hB : Below w.heap.size w w2 := by rw [hw2]; exact ((Below.refl _ w).alloc (Nat.le_refl _) _).alloc (by simp) _
  have hsz : w2.heap.size = w.heap.size + 2 := by rw [hw2]; simp
  have HZ := (show Hid (∀ y ∈ ys, szN y) from hz.2)
  have h32 := h3.mv mov_ses hB.size (Mv.below hB)
  clear h3 hz
  have c3 := ra.cell (j := 3) rfl
  have fin0 : ∀ {w5 w6 : World}, Below w2.heap.size w2 w5 → w5.grownBy w6 (some (w.heap.size + 1)) → lasN ys cc = (0, 0, []) → Rl w (lasN ys cc) (.returned (.tuple #[.int .i64 0, .agg #[.int .i64 0, .slice none 0 0]])) w6 := by
    intro w5 w6 hb hg e
    have hB5 := below_and hB (Nat.le_refl _) hb
    rw [e]
    exact ⟨_, rfl, OT.nil _ _, hB5.trans (grown_below hg hB5.size (fun k hk => by cases hk; omega))⟩
  by_cases hl : 0 < ys.length
  rotate_left
  · obtain rfl : ys = [] := List.eq_nil_of_length_eq_zero (by omega)
    obtain ⟨ao, cap, hvs, _⟩ := h32.form
    have hvs : vs = .slice ao 0 cap := hvs
    subst hvs
    go_enter Tryz.func10, Tryz.ntmps10
    go_upto_region 1 with fail
    rw [← hw2]
    clear hw2
    go_wp2_with fail
    refine wp_loop_rounds 1 ?_; rw [rounds_succ]
    go_wp2_with (refine wl_store rfl _ _ _ rfl (w.heap.size + 1) [.int .i64 0, .slice none 0 0] rfl rfl _ _ rr rfl (by kernel_rfl) (one_res rfl) ?_; intro w7 hr7 hg7)
    refine bodyPost_ret (results_tc rfl _ _ (w.heap.size + 1) _ _ (0, 0) _ (by rfl) hr7.out Tryz.underlying34 rfl (by kernel_rfl)) rfl ?_
    exact fin0 (Below.refl _ _) hg7 rfl
  obtain ⟨b, off, cap, rfl, hc, hm, _, hb, hx⟩ := h32.at hl
  have HX := (show Hid (∀ (i : Nat) (a : PEnt), ys[i]? = some a → ∃ r, r.length = 4 ∧ w2.rangeAt b (off + i * 4) r ∧ RSes Any w2 r a) from hx)
  have hlm : (ys.length : Int) ≤ 9223372036854775807 := by unfold maxLen at hm; omega
  have HS := (show Hid (w2.heap.size = w.heap.size + 2) from hsz)
  have FIN0 := (show Hid (∀ {w5 w6 : World}, Below w2.heap.size w2 w5 → w5.grownBy w6 (some (w.heap.size + 1)) → lasN ys cc = (0, 0, []) → Rl w (lasN ys cc) (.returned (.tuple #[.int .i64 0, .agg #[.int .i64 0, .slice none 0 0]])) w6) from fin0)
  clear hx h32 hm hsz fin0
  obtain ⟨N, hN⟩ : ∃ n, n = ys.length := ⟨_, rfl⟩
  rw [← hN] at hlm hl hc c3 ra ⊢
  rw [← hN] at hw2
  have HN := (show Hid (ys.length = N) from hN.symm)
  clear hN
  go_enter Tryz.func10, Tryz.ntmps10
  go_upto_region 1 with fail
  rw [← hw2]
  clear hw2
  go_wp2_with fail
  go_loopw [11] (fun i wr => ∃ q : Nat, q ≤ N ∧ i = .int .i64 q ∧ Below w2.heap.size w2 wr ∧ Hid (∀ (j : Nat) (y : PEnt), j < q → ys[j]? = some y → y.1 ≠ [cc])) (fun i _ => N - (intOf i).toNat)
  case atStart => exact ⟨0, by omega, rfl, Below.refl _ _, fun j y hj => by omega⟩
  case round =>
    obtain ⟨q, hq, rfl, hBr, hI⟩ := hrel
    by_cases hql : q < N
    · obtain ⟨x, hx⟩ : ∃ x, ys[q]? = some x := ⟨_, List.getElem?_eq_getElem (by have := HN.out; omega)⟩
      obtain ⟨r, _, hrng, c1, d1, k1, s1, l1, rfl, t1, t2⟩ := HX.out q x hx
      have hrng := rangeAt_block hrng (hBr.block b hb)
      obtain ⟨a1, cp1, rfl, hc1⟩ := t1.form
      have hrow0 := Row.new wr 43 [.int .i64 0, .int .i64 0, .int .i64 0, .slice none 0 0]
      have HP := (show Hid (x = ([c1], d1 :: k1 :: l1)) from t2)
      have HXX := (show Hid (ys[q]? = some x) from hx)
      have hone := onN4 (c := c1) (d := d1) (k := k1) t1.one
      have hzx : szT l1 := by have h := HZ.out x (List.mem_of_getElem? hx); rw [t2] at h; exact h
      have rrr := rr.below hBr
      have hne : ¬ (wr.heap.size = w.heap.size + 1) := by have := hBr.size; have := HS.out; omega
      clear hx t2
      by_cases g1 : c1 = cc
      · have g1' : (c1 == cc) = true := by simp [g1]
        have HH := (show Hid (lasN ys cc = (d1, k1, l1)) by
          show _ = _
          unfold lasN
          rw [fnd_at hI.out HXX.out (by rw [HP.out, g1]), HP.out]
          rfl)
        clear g1
        have HCR := (show Hid (∀ u, Below wr.heap.size wr u → Calls Tryz.prog 31 #[.agg #[.int .i64 k1, .slice a1 l1.length cp1]] u fun e w' => ∃ ax cx, e = .returned (.agg #[.int .i64 k1, .slice ax l1.length cx]) ∧ OT (From u.heap.size) w' (.slice ax l1.length cx) l1 ∧ Below u.heap.size u w') from fun u hu => (cloneResult_any u k1 _ l1 (t1.1.below (below_and hBr (Nat.le_refl _) hu)) hzx).mono fun e w' ⟨v', e1, e2, e3⟩ => by
          obtain ⟨ax, cx, rfl, _⟩ := e2.rt.form
          exact ⟨ax, cx, e1, e2, e3⟩)
        clear t1
        generalize l1.length = L1 at *
        go_upto_region 5 with (first
          | (refine wpList_load_mid rfl _ _ rfl b (off + q * 4) rfl [.int .i64 c1, .int .i64 d1, .int .i64 k1, .slice a1 L1 cp1] _ hrng Tryz.underlying43 rfl (by kernel_rfl) ?_)
          | (refine wl_store rfl _ _ _ rfl wr.heap.size [.int .i64 c1, .int .i64 d1, .int .i64 k1, .slice a1 L1 cp1] rfl rfl _ _ hrow0 rfl (by kernel_rfl) hone ?_; intro w5 hr5 hg5; have hb5 : Below wr.heap.size wr w5 := (below_alloc wr _).trans (grown_below hg5 (by simp) (fun k hk => by cases hk; exact Nat.le_refl _)); have e0 := hr5.out.cell (j := 0) rfl))
        have SK := (show Hid (∀ u, Below w5.heap.size w5 u → u.cell? ⟨wr.heap.size, 1, none⟩ = some (.int .i64 d1) ∧ u.cell? ⟨wr.heap.size, 2, none⟩ = some (.int .i64 k1) ∧ u.cell? ⟨wr.heap.size, 3, none⟩ = some (.slice a1 L1 cp1)) from fun u hu => ⟨(hr5.out.below hu).cell (j := 1) rfl, (hr5.out.below hu).cell (j := 2) rfl, (hr5.out.below hu).cell (j := 3) rfl⟩)
        have HCR2 := (show Hid (∀ u, Below w5.heap.size w5 u → Calls Tryz.prog 31 #[.agg #[.int .i64 k1, .slice a1 L1 cp1]] u fun e w' => ∃ ax cx, e = .returned (.agg #[.int .i64 k1, .slice ax L1 cx]) ∧ OT (From u.heap.size) w' (.slice ax L1 cx) l1 ∧ Below u.heap.size u w' ∧ Below w5.heap.size w5 w') from fun u hu => (HCR.out u (below_and hb5 (Nat.le_refl _) hu)).mono fun e w' ⟨ax, cx, e1, e2, e3⟩ => ⟨ax, cx, e1, e2, e3, below_and hu (Nat.le_refl _) e3⟩)
        obtain ⟨e1, e2, e3⟩ := SK.out w5 (Below.refl _ _)
        have hdw : Below w5.heap.size w5 w5.drew := ⟨rfl, rfl, rfl, Nat.le_refl _, fun _ _ => rfl⟩
        have rr5 := rrr.below hb5
        generalize hgb : wr.heap.size = gb at *
        go_region_held3 (fun u => u.cell? ⟨gb, 1, none⟩ = some (.int .i64 d1) ∧ u.cell? ⟨gb, 2, none⟩ = some (.int .i64 k1) ∧ u.cell? ⟨gb, 3, none⟩ = some (.slice a1 L1 cp1))
          (first | exact SK.out _ (by assumption) | exact ⟨set2_keep (SK.out w8 hB8).1 hne, set2_keep (SK.out w8 hB8).2.1 hne, set2_keep (SK.out w8 hB8).2.2 hne⟩ | go_keep)
          (first | (go_at_call 31; refine (HCR2.out _ (by first | assumption | exact Below.refl _ _)).mono ?_; rintro e w8 ⟨ax8, cx8, rfl, t8, hb8, hB8⟩; have rr8 := rr5.below hB8; have z0 := rr8.cell (j := 0) rfl; have z1 := rr8.cell (j := 1) rfl; have y0 := rr8.frozen 0; have y1 := rr8.frozen 1))
        have hr9 := (rr8.set 0 (.int .i64 k1)).set 1 (.slice ax8 L1 cx8)
        have hg9 := grown_trans (grown_set w8 (w.heap.size + 1) 0 (.int .i64 k1)) (grown_set _ (w.heap.size + 1) 1 (.slice ax8 L1 cx8)) (.inl rfl)
        go_wp2_with fail
        refine bodyPost_ret (results_tc rfl _ _ (w.heap.size + 1) _ _ (0, 0) _ (by rfl) hr9 Tryz.underlying34 rfl (by kernel_rfl)) rfl ?_
        subst hgb
        have t8 : OT (From w5.heap.size) w8 (.slice ax8 L1 cx8) l1 := t8
        have hB8' := below_and (below_and hB (Nat.le_refl _) hBr) (Nat.le_refl _) (below_and hb5 (Nat.le_refl _) hB8)
        rw [HH.out]
        have hs5 := hb5.size
        have hsr := hBr.size
        have hs2 := HS.out
        exact ⟨_, rfl, t8.mv (Mv.from hg9 (by omega) (by omega)), hB8'.trans (grown_below hg9 hB8'.size (fun k hk => by cases hk; omega))⟩
      · have g1' : (c1 == cc) = false := by simp [g1]
        have G1 := (show Hid (¬ c1 = cc) from g1)
        clear g1
        go_wp2_with (first
          | (refine wpList_load_mid rfl _ _ rfl b (off + q * 4) rfl [.int .i64 c1, .int .i64 d1, .int .i64 k1, .slice a1 l1.length cp1] _ hrng Tryz.underlying43 rfl (by kernel_rfl) ?_)
          | (refine wl_store rfl _ _ _ rfl wr.heap.size [.int .i64 c1, .int .i64 d1, .int .i64 k1, .slice a1 l1.length cp1] rfl rfl _ _ hrow0 rfl (by kernel_rfl) hone ?_; intro w5 hr5 hg5; have hb5 : Below wr.heap.size wr w5 := (below_alloc wr _).trans (grown_below hg5 (by simp) (fun k hk => by cases hk; exact Nat.le_refl _)); have e0 := hr5.out.cell (j := 0) rfl))
        go_roundw
        case rel =>
          refine ⟨q + 1, by omega, by go_num, below_and hBr (Nat.le_refl _) hb5, fun j y hj hy => ?_⟩
          rcases Nat.lt_or_ge j q with h1 | h1
          · exact hI.out j y h1 hy
          · obtain rfl : j = q := by omega
            rw [HXX.out] at hy
            cases hy
            rw [HP.out]
            intro e
            exact G1.out (by simpa using e)
        case measure => simp [intOf]; omega
    · have hqd : decide ((q : Int) < N) = false := by simp; omega
      have HH := (show Hid (lasN ys cc = (0, 0, [])) by
        show _ = _
        unfold lasN
        rw [fnd_no fun j y hy => hI.out j y (by have := HN.out; have := (List.getElem?_eq_some_iff.1 hy).1; omega) hy])
      have rrr := rr.below hBr
      go_wp2_with (refine wl_store rfl _ _ _ rfl (w.heap.size + 1) [.int .i64 0, .slice none 0 0] rfl rfl _ _ rrr rfl (by kernel_rfl) (one_res rfl) ?_; intro w7 hr7 hg7)
      refine bodyPost_ret (results_tc rfl _ _ (w.heap.size + 1) _ _ (0, 0) _ (by rfl) hr7.out Tryz.underlying34 rfl (by kernel_rfl)) rfl ?_
      exact FIN0.out hBr hg7 HH.out
end Go.Proofs.YtejkkhlblnepeaaGreat
end

section
set_option linter.unusedVariables false
set_option linter.unusedSimpArgs false
namespace Go.Proofs.YtejkkhlblnepeaaGreat
open Go.RowKit Oct Kvl

/-- Of what was there only block b and v's own row may have turned. -/
structure Tw (b : Nat) (v : Value) (w w' : World) : Prop where
  os : w'.os = w.os
  tape : w'.tape = w.tape
  output : w'.output = w.output
  size : w.heap.size ≤ w'.heap.size
  block : ∀ k, k < w.heap.size → k ≠ b → v.ownBlock ≠ some k → w'.heap[k]? = w.heap[k]?
theorem Tw.of_below {b : Nat} {v : Value} {w w' : World} (h : Below w.heap.size w w') : Tw b v w w' := ⟨h.os, h.tape, h.output, h.size, fun k hk _ _ => h.block k hk⟩
theorem Tw.of_b {b : Nat} {v : Value} {w w' : World} (h : w.grownBy w' (some b)) : Tw b v w w' := ⟨h.os, h.tape, h.output, h.size, fun k hk h1 _ => h.block k hk (fun e => h1 (by injection e))⟩
theorem Tw.of_v {b : Nat} {v : Value} {w w' : World} (h : w.grownBy w' v.ownBlock) : Tw b v w w' := ⟨h.os, h.tape, h.output, h.size, fun k hk _ h2 => h.block k hk (fun e => h2 e.symm)⟩
theorem Tw.trans {b : Nat} {v : Value} {w w1 w2 : World} (h : Tw b v w w1) (h' : Tw b v w1 w2) : Tw b v w w2 :=
  ⟨h'.os.trans h.os, h'.tape.trans h.tape, h'.output.trans h.output, Nat.le_trans h.size h'.size, fun k hk h1 h2 => (h'.block k (Nat.lt_of_lt_of_le hk h.size) h1 h2).trans (h.block k hk h1 h2)⟩
theorem Tw.new {b : Nat} {v : Value} {w w1 w2 : World} (h : Tw b v w w1) {n : Nat} (h' : w1.grownBy w2 (some n)) (hn : w.heap.size ≤ n) : Tw b v w w2 :=
  ⟨h'.os.trans h.os, h'.tape.trans h.tape, h'.output.trans h.output, Nat.le_trans h.size h'.size, fun k hk h1 h2 => (h'.block k (Nat.lt_of_lt_of_le hk h.size) (fun e => by injection e with e; omega)).trans (h.block k hk h1 h2)⟩
/-- The list may have moved into memory that is new. -/
theorem Tw.moved {b : Nat} {v v1 : Value} {w w1 w2 : World} (h : Tw b v w w1) (hv : v1.ownBlock = v.ownBlock ∨ Fr w.heap.size v1) (h' : Tw b v1 w1 w2) : Tw b v w w2 :=
  ⟨h'.os.trans h.os, h'.tape.trans h.tape, h'.output.trans h.output, Nat.le_trans h.size h'.size, fun k hk h1 h2 => (h'.block k (Nat.lt_of_lt_of_le hk h.size) h1 (fun e => by
    rcases hv with hv | hv
    · exact h2 (hv ▸ e)
    · have := hv k e; omega)).trans (h.block k hk h1 h2)⟩
theorem Tw.bel {b : Nat} {v : Value} {w w' : World} (h : Tw b v w w') {B : Nat} (hb : B ≤ b) (hv : Fr B v) (hB : B ≤ w.heap.size) : Below B w w' :=
  ⟨h.os, h.tape, h.output, h.size, fun k hk => h.block k (Nat.lt_of_lt_of_le hk hB) (by omega) (fun e => by have := hv k e; omega)⟩
theorem LB.apart {α : Type} {R : (Nat → Prop) → World → List Value → α → Prop} {T : TypeId} {k B : Nat} {w : World} {v : Value} {ys : List α} (h : LB R T k B w v ys) {j : Nat} {t : TypeId} {xs : List Value} (hr : Row w j t xs) (ht : t ≠ T) : v.ownBlock ≠ some j := fun e => by
  obtain ⟨rows, r0, hown, hfr, hall⟩ := h
  rcases hown.2 with ⟨rfl, _⟩ | ⟨g, cap, cur, rfl, _, hgg, _⟩
  · simp [Value.ownBlock] at e
  · simp [Value.ownBlock] at e
    subst e
    unfold Row at hr
    rw [hr] at hgg
    simp at hgg
    exact ht hgg.2
/-- Two lists of unlike kinds lie in unlike rows. -/
theorem LB.twain {α β : Type} {R : (Nat → Prop) → World → List Value → α → Prop} {S : (Nat → Prop) → World → List Value → β → Prop} {T U : TypeId} {k l B C : Nat} {w : World} {v u : Value} {ys : List α} {zs : List β} (h : LB R T k B w v ys) (h' : LB S U l C w u zs) (ht : U ≠ T) : ∀ j, u.ownBlock = some j → v.ownBlock ≠ some j := fun j hj e => by
  obtain ⟨rows, r0, hown, hfr, hall⟩ := h
  obtain ⟨rows', r0', hown', hfr', hall'⟩ := h'
  rcases hown.2 with ⟨rfl, _⟩ | ⟨g, cap, cur, rfl, _, hgg, _⟩
  · simp [Value.ownBlock] at e
  · rcases hown'.2 with ⟨rfl, _⟩ | ⟨g', cap', cur', rfl, _, hgg', _⟩
    · simp [Value.ownBlock] at hj
    · simp [Value.ownBlock] at e hj
      subst e hj
      rw [hgg] at hgg'
      simp at hgg'
      exact ht hgg'.2.symm
theorem Tw.row {b : Nat} {v : Value} {w w' : World} (h : Tw b v w w') {k : Nat} {t : TypeId} {xs : List Value} (hr : Row w k t xs) (hk : k ≠ b) (hv : v.ownBlock ≠ some k) : Row w' k t xs := (h.block k hr.lt hk hv).trans hr
theorem ot_apart {α : Type} {R : (Nat → Prop) → World → List Value → α → Prop} {T : TypeId} {k B : Nat} {w : World} {v : Value} {ys : List α} (h : LB R T k B w v ys) (ht : T ≠ 5) {G : Nat → Prop} {u : Value} {l : List Int} (ho : OT G w u l) : ∀ j, u.ownBlock = some j → v.ownBlock ≠ some j := fun j hj e => by
  rcases ho.1.2 with ⟨rfl, _⟩ | ⟨g, cap, cur, rfl, _, hg, _⟩
  · simp [Value.ownBlock] at hj
  · simp [Value.ownBlock] at hj
    subst hj
    obtain ⟨rows, r0, hown, hfr, hall⟩ := h
    rcases hown.2 with ⟨rfl, _⟩ | ⟨g', cap', cur', rfl, _, hgg', _⟩
    · simp [Value.ownBlock] at e
    · simp [Value.ownBlock] at e
      subst e
      rw [hg] at hgg'
      simp at hgg'
      exact ht hgg'.2.symm
theorem Tw.ot {b : Nat} {v : Value} {w w' : World} (h : Tw b v w w') {B : Nat} {ys : List PEnt} (hs : LB OSes 43 4 B w v ys) {row : List Value} (hb : Row w b 26 row) {G : Nat → Prop} {u : Value} {l : List Int} (ho : OT G w u l) : OT G w' u l := by
  have h1 := ho.ne hb (by decide)
  exact ⟨ho.1.at_block fun k hk => h.block k (ho.1.lt k hk) (h1.2.2 k hk).2 (ot_apart hs (by decide) ho k hk), ho.2.1, ho.2.2⟩
theorem Tw.ent {b : Nat} {v : Value} {w w' : World} (h : Tw b v w w') {B : Nat} {ys : List PEnt} (hs : LB OSes 43 4 B w v ys) {row : List Value} (hb : Row w b 26 row) {C : Nat} {u : Value} {zs : List PEnt} (he : LB OEnt 82 2 C w u zs) : LB OEnt 82 2 C w' u zs := by
  have n1 := he.apart hb (by decide)
  have n2 := hs.twain he (by decide)
  obtain ⟨rows, r0, hown, hfr, hall⟩ := he
  refine ⟨rows, r0, ⟨hown.1, ?_⟩, hfr, hall.mono fun q x hq => ?_⟩
  · rcases hown.2 with h0 | ⟨g, cap, cur, h1, h2, h3, h4⟩
    · exact .inl h0
    · exact .inr ⟨g, cap, cur, h1, h2, (h.block g (Array.getElem?_eq_some_iff.1 h3).1 (fun e => n1 (by rw [h1, ← e]; rfl)) (n2 g (by rw [h1]; rfl))).trans h3, h4⟩
  · obtain ⟨p, q, rfl, o1, o2⟩ := hq
    exact ⟨p, q, rfl, h.ot hs hb o1, h.ot hs hb o2⟩
theorem Tw.lea {b : Nat} {v : Value} {w w' : World} (h : Tw b v w w') {B : Nat} {ys : List PEnt} (hs : LB OSes 43 4 B w v ys) {row : List Value} (hb : Row w b 26 row) {C : Nat} {u : Value} {zs : List PEnt} (he : LB OLea 84 3 C w u zs) : LB OLea 84 3 C w' u zs := by
  have n1 := he.apart hb (by decide)
  have n2 := hs.twain he (by decide)
  obtain ⟨rows, r0, hown, hfr, hall⟩ := he
  refine ⟨rows, r0, ⟨hown.1, ?_⟩, hfr, hall.mono fun q x hq => ?_⟩
  · rcases hown.2 with h0 | ⟨g, cap, cur, h1, h2, h3, h4⟩
    · exact .inl h0
    · exact .inr ⟨g, cap, cur, h1, h2, (h.block g (Array.getElem?_eq_some_iff.1 h3).1 (fun e => n1 (by rw [h1, ← e]; rfl)) (n2 g (by rw [h1]; rfl))).trans h3, h4⟩
  · obtain ⟨p, q', q, rfl, o1, o2⟩ := hq
    exact ⟨p, q', q, rfl, h.ot hs hb o1, o2⟩
theorem LB.grownN {B : Nat} {w w' : World} {v : Value} {ys : List PEnt} {b : Nat} {t : TypeId} {xs : List Value} (h : LB OSes 43 4 B w v ys) (hr : Row w b t xs) (h1 : t ≠ 5) (h2 : t ≠ 43) (hg : w.grownBy w' (some b)) : LB OSes 43 4 B w' v ys := by
  have hne := h.apart hr h2
  obtain ⟨rows, r0, hown, hfr, hall⟩ := h
  refine ⟨rows, r0, World.ownsRow.kept hown hg ?_, hfr, hall.mono fun q x hq => ?_⟩
  · cases hv : v.ownBlock with
    | none => exact .inl rfl
    | some k => exact .inr fun e => hne (hv.trans e)
  · obtain ⟨c, d, k, a, l, rfl, o1, o2⟩ := hq
    have mv : Mv (fun k => (B ≤ k ∧ v.ownBlock ≠ some k) ∧ k ≠ b) (fun k => B ≤ k ∧ v.ownBlock ≠ some k) w w' := fun k hk hlt => ⟨hg.block k hlt (fun e => hk.2 (by injection e)), hk.1⟩
    exact ⟨c, d, k, a, l, rfl, (o1.ne hr h1).mv mv, o2⟩

theorem LB.opnN {B : Nat} {w : World} {v : Value} {ys : List PEnt} (h : LB OSes 43 4 B w v ys) (hp : 0 < ys.length) : ∃ (g cap : Nat) (cur : List Value) (rows : List (List Value)), v = .slice (some ⟨g, 0, none⟩) ys.length cap ∧ Row w g 43 cur ∧ cur.length = cap * 4 ∧ ys.length ≤ cap ∧ cap ≤ maxLen ∧ B ≤ g ∧ rows.length = ys.length ∧ (∀ r ∈ rows, r.length = 4) ∧ cur.take (ys.length * 4) = rows.flatten ∧ All2 (OSes (fun b => B ≤ b ∧ b ≠ g) w) rows ys := by
  obtain ⟨rows, h0, hown, hfr, hall⟩ := h
  have hlen := hall.len
  rw [hlen] at hown
  rcases hown.2 with ⟨_, h4⟩ | ⟨g, cap, cur, rfl, _, hg, hc1, hc2, hc3, hc4⟩
  · omega
  · exact ⟨g, cap, cur.toList, rows, rfl, by unfold Row; simpa using hg, by simpa using hc3, hc1, hc2, hfr g rfl, hlen, h0, hc4, hall.mono fun q b hq => mov_oses _ _ _ _ _ _ hq (Nat.le_refl _) fun k hk _ => ⟨rfl, hk.1, fun e => hk.2 (by simp [Value.ownBlock, e])⟩⟩
theorem LB.mkN {B : Nat} {w : World} {ys : List PEnt} {g cap n : Nat} {cur : List Value} {rows : List (List Value)} (h1 : Row w g 43 cur) (h2 : cur.length = cap * 4) (h3 : n ≤ cap) (h4 : cap ≤ maxLen) (h5 : B ≤ g) (h6 : rows.length = n) (h7 : ∀ r ∈ rows, r.length = 4) (h8 : cur.take (n * 4) = rows.flatten)
    (h9 : All2 (OSes (fun b => B ≤ b ∧ b ≠ g) w) rows ys) : LB OSes 43 4 B w (.slice (some ⟨g, 0, none⟩) n cap) ys :=
  ⟨rows, h7, ⟨flat_len h7, .inr ⟨g, cap, cur.toArray, by rw [h6], Nat.zero_le _, h1, by omega, h4, by simpa using h2, by rw [h6]; simpa using h8⟩⟩, fr_at _ _ _ _ h5, h9.mono fun q b hq => mov_oses _ _ _ _ _ _ hq (Nat.le_refl _) fun k hk _ => ⟨rfl, hk.1, fun e => hk.2 (by simp [Value.ownBlock] at e; exact e.symm)⟩⟩
theorem set_split {α : Type} {l : List α} {p : Nat} (h : p < l.length) (y : α) : l.set p y = l.take p ++ y :: l.drop (p + 1) := by
  rw [List.set_eq_take_append_cons_drop, if_pos h]
/-- A record in the place of another. -/
theorem LB.putN {B : Nat} {w w2 : World} {ys : List PEnt} {g cap p : Nat} {cur : List Value} {rows : List (List Value)} {r' : List Value} {x' : PEnt} (h1 : Row w g 43 cur) (h2 : cur.length = cap * 4) (h3 : ys.length ≤ cap) (h4 : cap ≤ maxLen) (h5 : B ≤ g) (h6 : rows.length = ys.length) (h7 : ∀ r ∈ rows, r.length = 4) (h8 : cur.take (ys.length * 4) = rows.flatten)
    (h9 : All2 (OSes (fun b => B ≤ b ∧ b ≠ g) w) rows ys) (hp : p < ys.length) (hr' : OSes (fun b => B ≤ b ∧ b ≠ g) w r' x') (hg2 : w.grownBy w2 (some g)) (hr2 : Row w2 g 43 (splice cur (p * 4) r')) : LB OSes 43 4 B w2 (.slice (some ⟨g, 0, none⟩) ys.length cap) (ys.set p x') := by
  have hl : r'.length = 4 := by obtain ⟨c, d, k, a, l, rfl, _⟩ := hr'; rfl
  have hmv : Mv (fun b => B ≤ b ∧ b ≠ g) (fun b => B ≤ b ∧ b ≠ g) w w2 := fun j hj hlt => ⟨hg2.block j hlt (fun e => by injection e with e; exact hj.2 e), hj⟩
  obtain ⟨b0, hb0⟩ : ∃ b0, rows[p]? = some b0 := ⟨_, List.getElem?_eq_getElem (by omega)⟩
  have hsp : rows = rows.take p ++ b0 :: rows.drop (p + 1) := by rw [← drop_cons hb0, List.take_append_drop]
  have hc : ys.length * 4 ≤ cur.length := by omega
  have hA : ∀ r ∈ rows.take p, r.length = 4 := fun r hr => h7 r (List.mem_of_mem_take hr)
  have hB' : ∀ r ∈ b0 :: rows.drop (p + 1), r.length = 4 := fun r hr => h7 r (by rw [hsp]; exact List.mem_append_right _ hr)
  refine LB.mkN hr2 (by rw [length_splice _ _ _ (by omega), h2]) h3 h4 h5 (rows := rows.take p ++ r' :: rows.drop (p + 1)) ?_ (fun r hr => ?_) ?_ ?_
  · rw [List.length_append, List.length_cons, List.length_take, List.length_drop]; omega
  · rcases List.mem_append.1 hr with hr | hr
    · exact hA r hr
    · rcases List.mem_cons.1 hr with rfl | hr
      · exact hl
      · exact hB' r (by simp [hr])
  · exact flat_put (A := rows.take p) (b0 := b0) (B := rows.drop (p + 1)) hA hB' hl (by rw [List.length_take]; omega) (by rw [← hsp, h6]) hc (by rw [← hsp]; exact h8)
  · rw [← set_split (l := rows) (by omega) r']
    exact All2.set (h9.mono fun q z hq => mov_oses _ _ _ _ _ _ hq hg2.size hmv) (mov_oses _ _ _ _ _ _ hr' hg2.size hmv)
theorem spl4 {cur : List Value} {p : Nat} {a b c d : Value} (h : p + 4 ≤ cur.length) : (((cur.set p a).set (p + 1) b).set (p + 2) c).set (p + 3) d = splice cur p [a, b, c, d] := by
  apply List.ext_getElem?
  intro i
  unfold splice
  rw [List.getElem?_set, List.getElem?_set, List.getElem?_set, List.getElem?_set]
  simp only [List.length_set]
  rcases Nat.lt_or_ge i p with h1 | h1
  · rw [if_neg (by omega), if_neg (by omega), if_neg (by omega), if_neg (by omega), List.getElem?_append_left (by rw [List.length_take]; omega), List.getElem?_take, if_pos h1]
  · obtain ⟨j, rfl⟩ : ∃ j, i = p + j := ⟨i - p, by omega⟩
    have hl : (cur.take p).length = p := by rw [List.length_take]; omega
    rw [List.getElem?_append_right (by omega), hl, Nat.add_sub_cancel_left]
    match j with
    | 0 => simp; omega
    | 1 => simp; omega
    | 2 => simp; omega
    | 3 => simp; omega
    | j + 4 =>
      rw [if_neg (by omega), if_neg (by omega), if_neg (by omega), if_neg (by omega), List.getElem?_append_right (by simp), List.getElem?_drop]
      congr 1
      simp
      omega
end Go.Proofs.YtejkkhlblnepeaaGreat
end

section
set_option linter.unusedVariables false
set_option linter.unusedSimpArgs false
namespace Go.Proofs.YtejkkhlblnepeaaGreat
open Go.RowKit Oct Kvl

/-- The state in block b, and what may have turned. -/
def Rk1 (b B : Nat) (w : World) (vs : Value) (a : PApp) (w' : World) : Prop := ∃ row, OApp B w' row a ∧ Row w' b 26 row ∧ Tw b vs w w'

set_option maxRecDepth 10000 in
set_option maxHeartbeats 4000000 in
/-- session.keep. -/
theorem keep_any (w : World) (b B : Nat) (ve vl vs : Value) (a : PApp) (h1 : LB OEnt 82 2 B w ve a.2.1) (h2 : LB OLea 84 3 B w vl a.2.2.1) (h3 : LB OSes 43 4 B w vs a.2.2.2) (hrow : Row w b 26 [.int .i64 a.1, ve, vl, vs]) (hB : B ≤ w.heap.size)
    (m : List Int) (hup : up m a.2.2.2) (hlen : a.2.2.2.length ≤ 64) (r : List Value) (c d k : Int) (l : List Int) (hx : RSes Any w r ([c], d :: k :: l)) (hz : szT l) :
    Calls Tryz.prog 62 #[.pointer (some ⟨b, 0, none⟩), .agg r.toArray] w fun e w' => e = .returned (.tuple #[]) ∧ Rk1 b B w vs (a.1, a.2.1, a.2.2.1, putR [c] (d :: k :: l) a.2.2.2) w' := by
  generalize hys : a.2.2.2 = ys at *
  have hxall := hx
  obtain ⟨c', d', k', av, l', rfl, ha, hxe⟩ := hx
  injection hxe with e1 e2
  injection e1 with e1 _
  injection e2 with e2 e3
  injection e3 with e3 e4
  subst e1 e2 e3 e4
  obtain ⟨w0, hw0⟩ : ∃ w0, w0 = w.alloc (.cells #[.int .i64 c, .int .i64 d, .int .i64 k, av] 43) := ⟨_, rfl⟩
  have B0 : Below w.heap.size w w0 := by rw [hw0]; exact below_alloc _ _
  have s0 : Row w0 w.heap.size 43 [.int .i64 c, .int .i64 d, .int .i64 k, av] := by rw [hw0]; exact Row.new w _ _
  have hC := cloneSession_any w0 _ _ (mov_ses _ _ _ _ _ _ hxall B0.size (Mv.below B0)) hz
  have hfr := h3.fr
  have hlt := h3.lt
  go_enter Tryz.func62, Tryz.ntmps62
  go_upto_region 1 with fail
  rw [← hw0]
  clear hw0
  go_upto_region 2 with (first
    | (refine wl_load rfl _ _ rfl w.heap.size rfl _ _ s0 _ Tryz.underlying43 rfl (by kernel_rfl) ?_)
    | (go_at_call 57; refine hC.mono ?_; rintro e w1 ⟨r1, rfl, o1, hb1⟩; obtain ⟨c1, d1, k1, a1, l1, rfl, t1, hx1⟩ := o1; have s1 := s0.below hb1)
    | (refine wl_store rfl _ _ _ rfl w.heap.size [.int .i64 c1, .int .i64 d1, .int .i64 k1, a1] rfl rfl _ _ s1 rfl (by kernel_rfl) (onN4 t1.one) ?_; intro w2 hs2 hg2))
  injection hx1 with e1 e2
  injection e1 with e1 _
  injection e2 with e2 e3
  injection e3 with e3 e4
  subst e1 e2 e3 e4
  obtain ⟨ax, cx, rfl, hcx⟩ := t1.rt.form
  have hs2 : Row w2 w.heap.size 43 [.int .i64 c, .int .i64 d, .int .i64 k, .slice ax l.length cx] := hs2.out
  have hb01 := below_and B0 (Nat.le_refl _) hb1
  have T2 : Below w.heap.size w w2 := hb01.trans (grown_below hg2 hb01.size (fun k hk => by cases hk; exact Nat.le_refl _))
  have t2 : OT (From w0.heap.size) w2 (.slice ax l.length cx) l := t1.mv (Mv.from hg2 (by have := s0.lt; omega) (Nat.le_refl _))
  have hs02 := Nat.le_trans hb1.size hg2.size
  have hwl := s0.lt
  have q1 := h1.below mov_oent T2
  have q2 := h2.below mov_olea T2
  have q3 := h3.below mov_oses T2
  have r2 := hrow.below T2
  have hbw := hrow.lt
  have hbl : b ≠ w.heap.size := Nat.ne_of_lt hbw
  have HS := (show Hid (∀ u, Below w2.heap.size w2 u → Calls Tryz.prog 96 #[vs, .int .i64 c, .func (.func 97) #[] #[]] u fun e w' => e = .returned (.tuple #[.int .i64 (pos [c] ys), .bool (isIn [c] ys)]) ∧ Below u.heap.size u w' ∧ Below w2.heap.size w2 w') from fun u hu => (searchN_any u vs ys ((Rn.rl q3).mv mov_ses hu.size (Mv.below hu)) c m hup hlen).mono fun e w' ⟨e1, e2⟩ => ⟨e1, e2, below_and hu (Nat.le_refl _) e2⟩)
  have hpl : pos [c] ys ≤ ys.length := pos_le
  have hgo : putR [c] (d :: k :: l) ys = if isIn [c] ys then ys.set (pos [c] ys) ([c], d :: k :: l) else insL (pos [c] ys) ([c], d :: k :: l) ys := by
    unfold isIn
    cases hg : getR [c] ys with
    | none => simp only [Option.isSome_none, Bool.false_eq_true, if_false]; exact put_new hg
    | some u => simp only [Option.isSome_some, if_true]; exact put_old hg
  have hplt : isIn [c] ys = true → pos [c] ys < ys.length := by
    unfold isIn
    cases hg : getR [c] ys with
    | none => intro h; simp at h
    | some u => intro _; exact (List.getElem?_eq_some_iff.1 (get_some hg)).1
  have HGO := (show Hid (putR [c] (d :: k :: l) ys = if isIn [c] ys then ys.set (pos [c] ys) ([c], d :: k :: l) else insL (pos [c] ys) ([c], d :: k :: l) ys) from hgo)
  clear hgo
  generalize pos [c] ys = p at *
  have SK := (show Hid (∀ u, Below w2.heap.size w2 u → u.cell? ⟨b, 3, none⟩ = some vs ∧ u.cell? ⟨w.heap.size, 0, none⟩ = some (.int .i64 c)) from fun u hu => ⟨(r2.below hu).cell (j := 3) rfl, (hs2.below hu).cell (j := 0) rfl⟩)
  obtain ⟨C3, S0⟩ := SK.out w2 (Below.refl _ _)
  have hdw : Below w2.heap.size w2 w2.drew := ⟨rfl, rfl, rfl, Nat.le_refl _, fun _ _ => rfl⟩
  clear hC hxall h1 h2 h3 hrow s0 s1 hb1 hg2 B0 hb01 t1 hup ha
  cases hin : isIn [c] ys with
  | true =>
    have hpp := hplt hin
    rw [hin] at HS HGO
    clear hplt hin
    go_region_held3 (fun u => u.cell? ⟨b, 3, none⟩ = some vs ∧ u.cell? ⟨w.heap.size, 0, none⟩ = some (.int .i64 c))
      (first | exact SK.out _ (by assumption) | go_keep)
      (first | (go_at_call 96; refine (HS.out _ (by first | assumption | exact Below.refl _ _)).mono ?_; rintro e w3 ⟨rfl, hb3, hB3⟩))
    have hsB3 := hs2.below hB3
    have r3 := r2.below hB3
    have t3 := t2.mv (Mv.belowG hB3)
    obtain ⟨g, cap, cur, rows, rfl, k1, k2, k3, k4, k5, k6, k7, k8, k9⟩ := (q3.below mov_oses hB3).opnN (by omega)
    have hgl : g < w.heap.size := hlt g rfl
    have hgw : g ≠ w.heap.size := Nat.ne_of_lt hgl
    have hgb : b ≠ g := fun e => by subst e; exact (Row.apart r3 k1 (by decide)) rfl
    obtain ⟨rp, hrp⟩ : ∃ rp, rows[p]? = some rp := ⟨_, List.getElem?_eq_getElem (by omega)⟩
    have hrl := k7 rp (List.mem_of_getElem? hrp)
    have hcell : ∀ j, j < 4 → ∃ z, w3.cell? ⟨g, p * 4 + j, none⟩ = some z := fun j hj => by
      have hz := List.getElem?_eq_getElem (l := rp) (i := j) (by omega)
      have := flat_at (j := j) k7 hrp hz
      rw [← k8, List.getElem?_take, if_pos (by omega)] at this
      exact ⟨_, k1.cell this⟩
    obtain ⟨z0, e0⟩ := hcell 0 (by decide)
    obtain ⟨z1, e1⟩ := hcell 1 (by decide)
    obtain ⟨z2, e2⟩ := hcell 2 (by decide)
    obtain ⟨z3, e3⟩ := hcell 3 (by decide)
    have e0 : w3.cell? ⟨g, p * 4, none⟩ = some z0 := e0
    have f0 : w3.frozen? ⟨g, p * 4, none⟩ = false := k1.frozen (p * 4)
    have f1 := k1.frozen (p * 4 + 1)
    have f2 := k1.frozen (p * 4 + 2)
    have f3 := k1.frozen (p * 4 + 3)
    have i0 := hsB3.cell (j := 0) rfl
    have i1 := hsB3.cell (j := 1) rfl
    have i2 := hsB3.cell (j := 2) rfl
    have i3 := hsB3.cell (j := 3) rfl
    have C3 := r3.cell (j := 3) rfl
    have hpi : (p : Int) < (ys.length : Int) := by omega
    have hy64 : (ys.length : Int) ≤ 64 := by omega
    go_upto_region 4 with fail
    go_region
    have T3 := below_and T2 (Nat.le_refl _) hB3
    have hr4 := ((((k1.set (p * 4) (.int .i64 c)).set (p * 4 + 1) (.int .i64 d)).set (p * 4 + 2) (.int .i64 k)).set (p * 4 + 3) (.slice ax l.length cx)).drew
    rw [spl4 (by omega)] at hr4
    have hg4 := grown_to_drew (grown_trans (grown_trans (grown_trans (grown_set w3 g (p * 4) (.int .i64 c)) (grown_set _ g (p * 4 + 1) (.int .i64 d)) (.inl rfl)) (grown_set _ g (p * 4 + 2) (.int .i64 k)) (.inl rfl)) (grown_set _ g (p * 4 + 3) (.slice ax l.length cx)) (.inl rfl))
    generalize ((((w3.setCell ⟨g, p * 4, none⟩ (.int .i64 c)).setCell ⟨g, p * 4 + 1, none⟩ (.int .i64 d)).setCell ⟨g, p * 4 + 2, none⟩ (.int .i64 k)).setCell ⟨g, p * 4 + 3, none⟩ (.slice ax l.length cx)).drew = w4 at *
    go_wp2_with fail
    go_end0
    have hmv : Mv (From w0.heap.size) (fun b => B ≤ b ∧ b ≠ g) w3 w3 := fun j hj _ => ⟨rfl, by unfold From at hj; omega, by unfold From at hj; omega⟩
    have hL := LB.putN k1 k2 k3 k4 k5 k6 k7 k8 k9 hpp ⟨c, d, k, _, l, rfl, t3.mv hmv, rfl⟩ hg4 hr4
    refine ⟨rfl, [.int .i64 a.1, ve, vl, .slice (some ⟨g, 0, none⟩) ys.length cap], ⟨_, _, _, rfl, (q1.below mov_oent hB3).grownR k1 (by decide) (by decide) hg4, (q2.below mov_olea hB3).grownL k1 (by decide) (by decide) hg4, ?_⟩, r3.grown hg4 (fun e => by injection e with e; exact hgb e.symm), (Tw.of_below T3).trans (Tw.of_v hg4)⟩
    rw [HGO.out]
    exact hL
  | false =>
    rw [hin] at HS HGO
    clear hplt hin
    go_region_held3 (fun u => u.cell? ⟨b, 3, none⟩ = some vs ∧ u.cell? ⟨w.heap.size, 0, none⟩ = some (.int .i64 c))
      (first | exact SK.out _ (by assumption) | go_keep)
      (first | (go_at_call 96; refine (HS.out _ (by first | assumption | exact Below.refl _ _)).mono ?_; rintro e w3 ⟨rfl, hb3, hB3⟩))
    have hsB3 := hs2.below hB3
    have r3 := r2.below hB3
    have t3 := t2.mv (Mv.belowG hB3)
    have q3' := q3.below mov_oses hB3
    have T3 := below_and T2 (Nat.le_refl _) hB3
    have HI := (show Hid (∀ (u : World) (vb : Nat), Below w3.heap.size w3 u → w3.heap.size ≤ vb → Row u vb 43 [.int .i64 c, .int .i64 d, .int .i64 k, .slice ax l.length cx] → Calls Tryz.prog 99 #[vs, .int .i64 (p : Int), .slice (some ⟨vb, 0, none⟩) 1 1] u fun e w' => ∃ ai ni ci, e = .returned (.slice ai ni ci) ∧ LB OSes 43 4 B w' (.slice ai ni ci) (insL p ([c], d :: k :: l) ys) ∧ Tw b vs w3 w' ∧ Row w' b 26 [.int .i64 a.1, ve, vl, vs]) from fun u vb hu hvb hr => (insertN_any u vs B ys (q3'.below mov_oses hu) (Nat.le_trans hB (Nat.le_trans T3.size hu.size)) hlen p hpl vb _ hr (fun e => by have := hlt vb e; have := T3.size; omega) ([c], d :: k :: l) ⟨c, d, k, _, l, rfl, t3.mv (fun j hj hlt' => ⟨hu.block j hlt', by unfold From at hj; omega, fun e => by have := hlt j e; unfold From at hj; omega⟩), rfl⟩).mono fun e w' ⟨v', e1, e2, e3⟩ => by
      obtain ⟨ai, ci, rfl, _⟩ := (Rn.rl e2).form
      exact ⟨ai, _, ci, e1, e2, (Tw.of_below hu).trans (Tw.of_v e3), (r3.below hu).grown e3 (fun e => q3'.apart r3 (by decide) e)⟩)
    have SK3 := (show Hid (∀ u, Below w3.heap.size w3 u → u.cell? ⟨b, 3, none⟩ = some vs ∧ u.cell? ⟨w.heap.size, 0, none⟩ = some (.int .i64 c) ∧ u.cell? ⟨w.heap.size, 1, none⟩ = some (.int .i64 d) ∧ u.cell? ⟨w.heap.size, 2, none⟩ = some (.int .i64 k) ∧ u.cell? ⟨w.heap.size, 3, none⟩ = some (.slice ax l.length cx)) from fun u hu => ⟨(r3.below hu).cell (j := 3) rfl, (hsB3.below hu).cell (j := 0) rfl, (hsB3.below hu).cell (j := 1) rfl, (hsB3.below hu).cell (j := 2) rfl, (hsB3.below hu).cell (j := 3) rfl⟩)
    obtain ⟨C3, i0, i1, i2, i3⟩ := SK3.out w3 (Below.refl _ _)
    have hba := below_alloc w3 (.cells #[.int .i64 c, .int .i64 d, .int .i64 k, .slice ax l.length cx] 43)
    obtain ⟨D3, j0, j1, j2, j3⟩ := SK3.out _ hba
    have hdw3 : Below w3.heap.size w3 w3.drew := ⟨rfl, rfl, rfl, Nat.le_refl _, fun _ _ => rfl⟩
    have hrn := Row.new w3 43 [.int .i64 c, .int .i64 d, .int .i64 k, .slice ax l.length cx]
    go_upto_region 5 with fail
    go_region_law (go_simp; go_at_call 99; refine (HI.out _ w3.heap.size (by first | exact hba | exact Below.drew hba | exact below_and hdw3 (Nat.le_refl _) (below_alloc _ _)) (Nat.le_refl _) (by first | exact hrn | exact hrn.drew)).mono ?_; rintro e w4 ⟨ai, ni, ci, rfl, hL4, hg4, r4⟩; have c4 := r4.cell (j := 3) rfl; have f4 := r4.frozen 3)
    all_goals (
      have g5 := grown_set w4 b 3 (.slice ai ni ci)
      have r5 : Row (w4.setCell ⟨b, 3, none⟩ (.slice ai ni ci)) b 26 [.int .i64 a.1, ve, vl, .slice ai ni ci] := r4.set 3 (.slice ai ni ci)
      generalize w4.setCell ⟨b, 3, none⟩ (.slice ai ni ci) = w5 at *
      go_wp2_with fail
      go_end0
      refine ⟨rfl, _, ⟨_, _, _, rfl, (hg4.ent q3' r3 (q1.below mov_oent hB3)).grownR r4 (by decide) (by decide) g5, (hg4.lea q3' r3 (q2.below mov_olea hB3)).grownL r4 (by decide) (by decide) g5, ?_⟩, r5, ((Tw.of_below T3).trans hg4).trans (Tw.of_b g5)⟩
      rw [HGO.out]
      exact hL4.grownN r4 (by decide) (by decide) g5)
end Go.Proofs.YtejkkhlblnepeaaGreat
end
