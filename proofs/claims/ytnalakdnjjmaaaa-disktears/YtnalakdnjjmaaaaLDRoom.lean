/- catenarylaw11.DiskRoom: its walk. -/
import Derived.Test.YtnalakdnjjmaaaaDAl
import Derived.Test.YtnalakdnjjmaaaaDop
set_option linter.unusedVariables false
set_option linter.unusedSimpArgs false
namespace Go.Proofs.Ytnalakdnjjmaaaa
open Go.RowKit Oct

/-- A text of a list, at its place. -/
theorem texts_at {w : World} {v : Value} {ll : List (List Int)} (h : RL RTx 1 Any w v ll) (k : Nat) (x : List Int) (hx : ll[k]? = some x) : ∃ b off cap u, v = .slice (some ⟨b, off, none⟩) ll.length cap ∧ ll.length ≤ cap ∧ cap ≤ maxLen ∧ ∀ w', Below w.heap.size w w' → w'.cell? ⟨b, off + k, none⟩ = some u ∧ Rd w' u x := by
  obtain ⟨b, off, cap, e, h1, h2, _, hb, h3⟩ := h.at (by have := (List.getElem?_eq_some_iff.1 hx).1; omega)
  obtain ⟨r, _, hr, u, rfl, hu⟩ := h3 k x hx
  refine ⟨b, off, cap, u, e, h1, h2, fun w' hw => ⟨?_, hu.1.below hw⟩⟩
  have := hr 0 u rfl
  rw [Nat.mul_one, Nat.add_zero] at this
  exact (hw.cell (p := ⟨b, off + k, none⟩) hb).trans this
theorem boos_at {w : World} {v : Value} {ll : List Bool} (h : RL RBo 1 Any w v ll) (k : Nat) (x : Bool) (hx : ll[k]? = some x) : ∃ b off cap, v = .slice (some ⟨b, off, none⟩) ll.length cap ∧ ll.length ≤ cap ∧ cap ≤ maxLen ∧ ∀ w', Below w.heap.size w w' → w'.cell? ⟨b, off + k, none⟩ = some (.bool x) := by
  obtain ⟨b, off, cap, e, h1, h2, _, hb, h3⟩ := h.at (by have := (List.getElem?_eq_some_iff.1 hx).1; omega)
  obtain ⟨r, _, hr, rfl⟩ := h3 k x hx
  refine ⟨b, off, cap, e, h1, h2, fun w' hw => ?_⟩
  have := hr 0 _ rfl
  rw [Nat.mul_one, Nat.add_zero] at this
  exact (hw.cell (p := ⟨b, off + k, none⟩) hb).trans this

/-- A disk that is whole and won't break. -/
def Whl (R : Int) (d : PDk) : Prop := d.dead = false ∧ d.due = false ∧ d.room = R ∧ (d.l.length : Int) ≤ R
theorem Whl.no {R : Int} {d : PDk} (h : Whl R d) (n : Int) : noD d n = if R < n then 113 else 0 := by
  unfold noD
  rw [h.1, h.2.2.1]
  simp
theorem Whl.ap {R : Int} {d : PDk} (h : Whl R d) {x : List Int} (hx : (d.l.length : Int) + x.length ≤ R) : apD d x = ({ d with l := d.l ++ x }, 0) ∧ Whl R { d with l := d.l ++ x } := by
  refine ⟨?_, h.1, h.2.1, h.2.2.1, by simp only [List.length_append]; omega⟩
  unfold apD
  rw [h.no, if_neg (by rw [if_neg (by omega)]; simp), if_neg (by simp [brD, h.2.1])]
  simp [coD, h.2.1]
theorem Whl.apn {R : Int} {d : PDk} (h : Whl R d) {x : List Int} (hx : ¬ (d.l.length : Int) + x.length ≤ R) : apD d x = (d, 113) := by
  unfold apD
  rw [h.no, if_pos (by rw [if_pos (by omega)]; decide), if_pos (by omega)]
theorem Whl.re {R : Int} {d : PDk} (h : Whl R d) {x : List Int} (hx : (x.length : Int) ≤ R) : reD d x = ({ d with l := x }, 0) ∧ Whl R { d with l := x } := by
  refine ⟨?_, h.1, h.2.1, h.2.2.1, hx⟩
  unfold reD
  rw [h.no, if_neg (by rw [if_neg (by omega)]; simp), if_neg (by simp [brD, h.2.1])]
  simp [coD, h.2.1]
theorem Whl.ren {R : Int} {d : PDk} (h : Whl R d) {x : List Int} (hx : ¬ (x.length : Int) ≤ R) : reD d x = (d, 113) := by
  unfold reD
  rw [h.no, if_pos (by rw [if_pos (by omega)]; decide), if_pos (by omega)]

set_option maxRecDepth 10000 in
set_option maxHeartbeats 4000000 in
theorem roomD_any (w : World) (r : Int) (v0 v1 : Value) (ll : List (List Int)) (bs : List Bool) (h0 : RL RTx 1 Any w v0 ll) (h1 : RL RBo 1 Any w v1 bs) (z0 : szL 24 szT ll) :
    Calls Try.prog 7 #[.int .i64 r, v0, v1] w fun e w' => e = .returned (.bool true) ∧ Below w.heap.size w w' := by
  have le := Nat.le_refl w.heap.size
  have h0A := h0
  have h1A := h1
  obtain ⟨a0, c0, rfl, hc0⟩ := h0.form
  obtain ⟨a1, c1, rfl, hc1⟩ := h1.form
  obtain ⟨N, hN⟩ : ∃ N, N = ll.length := ⟨_, rfl⟩
  obtain ⟨M, hM⟩ : ∃ M, M = bs.length := ⟨_, rfl⟩
  have HZ := (show Hid (∀ y ∈ ll, szT y) from z0.2)
  have HT := (show Hid (∀ (k : Nat) (x : List Int), ll[k]? = some x → ∃ b off cap u, Value.slice a0 N c0 = .slice (some ⟨b, off, none⟩) N cap ∧ N ≤ cap ∧ cap ≤ maxLen ∧ x.length ≤ 140737488351232 ∧ ∀ w', Below w.heap.size w w' → w'.cell? ⟨b, off + k, none⟩ = some u ∧ Rd w' u x) from fun k x hx => by
    obtain ⟨b, off, cap, u, e, e1, e2, e3⟩ := texts_at h0A k x hx
    rw [← hN] at e e1
    exact ⟨b, off, cap, u, e, e1, e2, HZ.out x (List.mem_of_getElem? hx), e3⟩)
  have HB := (show Hid (∀ (k : Nat) (x : Bool), bs[k]? = some x → ∃ b off cap, Value.slice a1 M c1 = .slice (some ⟨b, off, none⟩) M cap ∧ M ≤ cap ∧ cap ≤ maxLen ∧ ∀ w', Below w.heap.size w w' → w'.cell? ⟨b, off + k, none⟩ = some (.bool x)) from fun k x hx => by
    obtain ⟨b, off, cap, e, e1, e2, e3⟩ := boos_at h1A k x hx
    rw [← hM] at e e1
    exact ⟨b, off, cap, e, e1, e2, e3⟩)
  have hNm : (N : Int) ≤ 9223372036854775807 := by
    rcases Nat.eq_zero_or_pos N with h | h
    · omega
    · obtain ⟨_, _, cap, _, e, e1, _⟩ := h0A.at (by omega)
      unfold maxLen at e1
      omega
  have hMm : (M : Int) ≤ 9223372036854775807 := by
    rcases Nat.eq_zero_or_pos M with h | h
    · omega
    · obtain ⟨_, _, cap, _, e, e1, _⟩ := h1A.at (by omega)
      unfold maxLen at e1
      omega
  rw [← hN, ← hM]
  have HN := (show Hid (ll.length = N) from hN.symm)
  have HM := (show Hid (bs.length = M) from hM.symm)
  obtain ⟨R, hR⟩ : ∃ R, R = wit r 4194304 := ⟨_, rfl⟩
  have HR := (show Hid (R = wit r 4194304) from hR)
  have hRb := wit_bd (n := r) (m := 4194304) (by decide)
  rw [← hR] at hRb
  obtain ⟨hR0, hR1⟩ := hRb
  clear hN hM h0 h1 h0A h1A hc0 hc1 z0 hR
  by_cases h300 : (300 : Int) < N
  · go_enter Try.func7, Try.ntmps7
    go_wp2_with (first
      | (go_at_call 8; refine (diskAlive_any w).mono ?_; rintro e w1 ⟨rfl, hb1⟩)
      | (go_at_call 9; refine (newD_any w1 r).mono ?_; rintro e w2 ⟨b, rfl, hb, hd2, hb2⟩))
    go_ret
    exact ⟨rfl, below_and hb1 le hb2⟩
  have h300' : decide ((300 : Int) < N) = false := by simp; omega
  go_enter Try.func7, Try.ntmps7
  go_upto_region 6 with (first
      | (go_at_call 8; refine (diskAlive_any w).mono ?_; rintro e w1 ⟨rfl, hb1⟩)
      | (go_at_call 9; refine (newD_any w1 r).mono ?_; rintro e w2 ⟨b, rfl, hb, hd2, hb2⟩))
  have hB2 := below_and hb1 le hb2
  have hbw : w.heap.size ≤ b := Nat.le_trans hb1.size hb
  have HW2 := (show Hid (Whl R (nwD r)) from ⟨rfl, rfl, HR.out.symm, by simp only [nwD, List.length_nil]; omega⟩)
  clear hb1 hb2 hb
  go_cut [8] from 29 (fun s8 wx => s8 = .int .i64 R ∧ wx = w2)
  case first =>
    have hq := HR.out
    unfold wit at hq
    go_wp2_with fail
    all_goals (
      go_meet
      exact ⟨congrArg (Value.int .i64) (by omega), rfl⟩)
  case rest =>
    obtain ⟨rfl, e2⟩ := hcut
    rw [e2]
    clear e2
    go_wp2_with fail
    go_loopw [34] (fun i wr => ∃ (k : Nat) (d : PDk) (v : Value), k ≤ N ∧ i = .int .i64 k ∧ Dsk wr b v d ∧ Whl R d ∧ Fr w.heap.size v ∧ Below w.heap.size w wr) (fun i _ => N - (intOf i).toNat)
    case atStart => exact ⟨0, _, _, by omega, rfl, hd2, HW2.out, Fr.nil _, hB2⟩
    case round =>
      clear hB2 hd2 HW2
      obtain ⟨k, d, v, hk, rfl, hd, hw, hf, hB⟩ := hrel
      by_cases hkl : k < N
      · obtain ⟨x, hx⟩ : ∃ x, ll[k]? = some x := ⟨_, List.getElem?_eq_getElem (by have := HN.out; omega)⟩
        obtain ⟨tb, to, tc, u, et, ht1, ht2, hxl, htx⟩ := HT.out k x hx
        injection et with et1 _ et3
        subst et1 et3
        have hki : (k : Int) < (N : Int) := by omega
        have hcu := (htx wr hB).1
        have HX := (show Hid (∀ w', Below w.heap.size w w' → Rd w' u x) from fun w' hw => (htx w' hw).2)
        obtain ⟨au, cu, hu, hcu2⟩ := (HX.out wr hB).form
        obtain ⟨X, hX⟩ : ∃ X, X = x.length := ⟨_, rfl⟩
        obtain ⟨L, hL⟩ : ∃ L, L = d.l.length := ⟨_, rfl⟩
        have hXb : (X : Int) ≤ 140737488351232 := by omega
        have hLR : (L : Int) ≤ R := by have := hw.2.2.2; omega
        have HXL := (show Hid (x.length = X) from hX.symm)
        have HLL := (show Hid (d.l.length = L) from hL.symm)
        rw [← hX] at hu
        have HW := (show Hid (Whl R d) from hw)
        clear hx htx hX hL hxl hcu2 hw
        subst hu
        go_upto_region 11 with (go_at_call 22; refine (bytesD_any wr b _ _ hd).mono ?_; rintro e w3 ⟨v3, rfl, ho3, hf3, hb3⟩; obtain ⟨av3, cv3, e3, _⟩ := ho3.form; rw [bc_len, HLL.out] at e3; subst e3)
        have hB3 := below_and hB le hb3
        have hd3 := hd.below hb3
        have hx3 := HX.out w3 hB3
        clear hb3 ho3 hf3 hcu hd hB
        by_cases hkm : k < M
        · obtain ⟨y, hy⟩ : ∃ y, bs[k]? = some y := ⟨_, List.getElem?_eq_getElem (by have := HM.out; omega)⟩
          obtain ⟨bb, bo, bc', eb, hb1, hb2, hby⟩ := HB.out k y hy
          injection eb with eb1 _ eb3
          subst eb1 eb3
          have hkm' : (k : Int) < (M : Int) := by omega
          have hcb := hby w3 hB3
          clear hby hy
          cases y with
          | true =>
            by_cases hfit : (X : Int) ≤ R
            · have hy := HW.out.re (x := x) (by have := HXL.out; have := HLL.out; omega)
              have HQ := (show Hid _ from hy)
              clear hy
              go_upto_region 18 with (at_builtin; refine app_copy rfl _ _ rfl rfl _ x rfl hx3 (by have := HXL.out; omega) ?_; intro o4 w4 hown4 hfr4 hb4)
              have hB4 := below_and hB3 le hb4
              have hd4 := hd3.below hb4
              refine (replaceD_any w4 b _ o4 _ x hd4 (hown4.rd hx3.1) (fun _ => hd4.nu hown4) (by have := HXL.out; omega)).mono ?_
              rintro e w5 ⟨v5, rfl, hd5, hg5, hs5⟩
              rw [HQ.out.1] at hd5 ⊢
              have hB5 : Below w.heap.size w w5 := hB4.trans (hg5.below hB4.size hbw hf)
              have hf5 : Fr w.heap.size v5 := by rcases hs5 with h | h; exact fun q hq => hf q (h ▸ hq); exact h.mono hB4.size
              clear hd4 hB4 hown4 hfr4 hb4 hg5 hs5
              go_upto_region 19 with (go_at_call 22; refine (bytesD_any w5 b _ _ hd5).mono ?_; rintro e w6 ⟨v6, rfl, ho6, hf6, hb6⟩; obtain ⟨av6, cv6, e6, _⟩ := ho6.form; rw [bc_len, HXL.out] at e6; subst e6)
              have hB6 := below_and hB5 le hb6
              have hd6 := hd5.below hb6
              clear hd5 hB5 ho6 hf6 hb6
              go_wp2_with fail
              go_roundw
              case rel => exact ⟨k + 1, _, _, by omega, by go_num, hd6, HQ.out.2, hf5, hB6⟩
              case measure => simp [intOf]; omega
            · have hn := HW.out.ren (x := x) (by have := HXL.out; have := HLL.out; omega)
              have HQ := (show Hid _ from hn)
              clear hn
              have hfit' : decide ((X : Int) ≤ R) = false := decide_eq_false hfit
              go_upto_region 18 with (at_builtin; refine app_copy rfl _ _ rfl rfl _ x rfl hx3 (by have := HXL.out; omega) ?_; intro o4 w4 hown4 hfr4 hb4)
              have hB4 := below_and hB3 le hb4
              have hd4 := hd3.below hb4
              refine (replaceD_any w4 b _ o4 _ x hd4 (hown4.rd hx3.1) (fun _ => hd4.nu hown4) (by have := HXL.out; omega)).mono ?_
              rintro e w5 ⟨v5, rfl, hd5, hg5, hs5⟩
              rw [HQ.out] at hd5 ⊢
              have hB5 : Below w.heap.size w w5 := hB4.trans (hg5.below hB4.size hbw hf)
              have hf5 : Fr w.heap.size v5 := by rcases hs5 with h | h; exact fun q hq => hf q (h ▸ hq); exact h.mono hB4.size
              clear hd4 hB4 hown4 hfr4 hb4 hg5 hs5
              go_upto_region 19 with (go_at_call 22; refine (bytesD_any w5 b _ _ hd5).mono ?_; rintro e w6 ⟨v6, rfl, ho6, hf6, hb6⟩; obtain ⟨av6, cv6, e6, _⟩ := ho6.form; rw [bc_len, HLL.out] at e6; subst e6)
              have hB6 := below_and hB5 le hb6
              have hd6 := hd5.below hb6
              clear hd5 hB5 ho6 hf6 hb6
              go_wp2_with fail
              go_roundw
              case rel => exact ⟨k + 1, _, _, by omega, by go_num, hd6, HW.out, hf5, hB6⟩
              case measure => simp [intOf]; omega
          | false =>
            by_cases hfit : (L : Int) + (X : Int) ≤ R
            · have hy := HW.out.ap (x := x) (by have := HXL.out; have := HLL.out; omega)
              have HQ := (show Hid _ from hy)
              clear hy
              go_upto_region 18 with (at_builtin; refine app_copy rfl _ _ rfl rfl _ x rfl hx3 (by have := HXL.out; omega) ?_; intro o4 w4 hown4 hfr4 hb4)
              have hB4 := below_and hB3 le hb4
              have hd4 := hd3.below hb4
              refine (appendD_any w4 b _ o4 _ x hd4 (hown4.rd hx3.1) (fun _ => hd4.nu hown4) (fun _ q hq e => by have := hfr4 q e; have := hd3.own.lt q hq; omega) (by have := HXL.out; omega)).mono ?_
              rintro e w5 ⟨v5, rfl, hd5, hg5, hs5⟩
              rw [HQ.out.1] at hd5 ⊢
              have hB5 : Below w.heap.size w w5 := hB4.trans (hg5.below hB4.size hbw hf)
              have hf5 : Fr w.heap.size v5 := by rcases hs5 with h | h; exact fun q hq => hf q (h ▸ hq); exact h.mono hB4.size
              clear hd4 hB4 hown4 hfr4 hb4 hg5 hs5
              go_upto_region 19 with (go_at_call 22; refine (bytesD_any w5 b _ _ hd5).mono ?_; rintro e w6 ⟨v6, rfl, ho6, hf6, hb6⟩; obtain ⟨av6, cv6, e6, _⟩ := ho6.form; rw [bc_len, List.length_append, HXL.out, HLL.out] at e6; subst e6)
              have hB6 := below_and hB5 le hb6
              have hd6 := hd5.below hb6
              clear hd5 hB5 ho6 hf6 hb6
              go_wp2_with fail
              go_roundw
              case rel => exact ⟨k + 1, _, _, by omega, by go_num, hd6, HQ.out.2, hf5, hB6⟩
              case measure => simp [intOf]; omega
            · have hn := HW.out.apn (x := x) (by have := HXL.out; have := HLL.out; omega)
              have HQ := (show Hid _ from hn)
              clear hn
              have hfit' : decide ((L : Int) + (X : Int) ≤ R) = false := decide_eq_false hfit
              go_upto_region 18 with (at_builtin; refine app_copy rfl _ _ rfl rfl _ x rfl hx3 (by have := HXL.out; omega) ?_; intro o4 w4 hown4 hfr4 hb4)
              have hB4 := below_and hB3 le hb4
              have hd4 := hd3.below hb4
              refine (appendD_any w4 b _ o4 _ x hd4 (hown4.rd hx3.1) (fun _ => hd4.nu hown4) (fun _ q hq e => by have := hfr4 q e; have := hd3.own.lt q hq; omega) (by have := HXL.out; omega)).mono ?_
              rintro e w5 ⟨v5, rfl, hd5, hg5, hs5⟩
              rw [HQ.out] at hd5 ⊢
              have hB5 : Below w.heap.size w w5 := hB4.trans (hg5.below hB4.size hbw hf)
              have hf5 : Fr w.heap.size v5 := by rcases hs5 with h | h; exact fun q hq => hf q (h ▸ hq); exact h.mono hB4.size
              clear hd4 hB4 hown4 hfr4 hb4 hg5 hs5
              go_upto_region 19 with (go_at_call 22; refine (bytesD_any w5 b _ _ hd5).mono ?_; rintro e w6 ⟨v6, rfl, ho6, hf6, hb6⟩; obtain ⟨av6, cv6, e6, _⟩ := ho6.form; rw [bc_len, HLL.out] at e6; subst e6)
              have hB6 := below_and hB5 le hb6
              have hd6 := hd5.below hb6
              clear hd5 hB5 ho6 hf6 hb6
              go_wp2_with fail
              go_roundw
              case rel => exact ⟨k + 1, _, _, by omega, by go_num, hd6, HW.out, hf5, hB6⟩
              case measure => simp [intOf]; omega
        · have hkm' : decide ((k : Int) < (M : Int)) = false := by simp; omega
          by_cases hfit : (L : Int) + (X : Int) ≤ R
          · have hy := HW.out.ap (x := x) (by have := HXL.out; have := HLL.out; omega)
            have HQ := (show Hid _ from hy)
            clear hy
            go_upto_region 18 with (at_builtin; refine app_copy rfl _ _ rfl rfl _ x rfl hx3 (by have := HXL.out; omega) ?_; intro o4 w4 hown4 hfr4 hb4)
            have hB4 := below_and hB3 le hb4
            have hd4 := hd3.below hb4
            refine (appendD_any w4 b _ o4 _ x hd4 (hown4.rd hx3.1) (fun _ => hd4.nu hown4) (fun _ q hq e => by have := hfr4 q e; have := hd3.own.lt q hq; omega) (by have := HXL.out; omega)).mono ?_
            rintro e w5 ⟨v5, rfl, hd5, hg5, hs5⟩
            rw [HQ.out.1] at hd5 ⊢
            have hB5 : Below w.heap.size w w5 := hB4.trans (hg5.below hB4.size hbw hf)
            have hf5 : Fr w.heap.size v5 := by rcases hs5 with h | h; exact fun q hq => hf q (h ▸ hq); exact h.mono hB4.size
            clear hd4 hB4 hown4 hfr4 hb4 hg5 hs5
            go_upto_region 19 with (go_at_call 22; refine (bytesD_any w5 b _ _ hd5).mono ?_; rintro e w6 ⟨v6, rfl, ho6, hf6, hb6⟩; obtain ⟨av6, cv6, e6, _⟩ := ho6.form; rw [bc_len, List.length_append, HXL.out, HLL.out] at e6; subst e6)
            have hB6 := below_and hB5 le hb6
            have hd6 := hd5.below hb6
            clear hd5 hB5 ho6 hf6 hb6
            go_wp2_with fail
            go_roundw
            case rel => exact ⟨k + 1, _, _, by omega, by go_num, hd6, HQ.out.2, hf5, hB6⟩
            case measure => simp [intOf]; omega
          · have hn := HW.out.apn (x := x) (by have := HXL.out; have := HLL.out; omega)
            have HQ := (show Hid _ from hn)
            clear hn
            have hfit' : decide ((L : Int) + (X : Int) ≤ R) = false := decide_eq_false hfit
            go_upto_region 18 with (at_builtin; refine app_copy rfl _ _ rfl rfl _ x rfl hx3 (by have := HXL.out; omega) ?_; intro o4 w4 hown4 hfr4 hb4)
            have hB4 := below_and hB3 le hb4
            have hd4 := hd3.below hb4
            refine (appendD_any w4 b _ o4 _ x hd4 (hown4.rd hx3.1) (fun _ => hd4.nu hown4) (fun _ q hq e => by have := hfr4 q e; have := hd3.own.lt q hq; omega) (by have := HXL.out; omega)).mono ?_
            rintro e w5 ⟨v5, rfl, hd5, hg5, hs5⟩
            rw [HQ.out] at hd5 ⊢
            have hB5 : Below w.heap.size w w5 := hB4.trans (hg5.below hB4.size hbw hf)
            have hf5 : Fr w.heap.size v5 := by rcases hs5 with h | h; exact fun q hq => hf q (h ▸ hq); exact h.mono hB4.size
            clear hd4 hB4 hown4 hfr4 hb4 hg5 hs5
            go_upto_region 19 with (go_at_call 22; refine (bytesD_any w5 b _ _ hd5).mono ?_; rintro e w6 ⟨v6, rfl, ho6, hf6, hb6⟩; obtain ⟨av6, cv6, e6, _⟩ := ho6.form; rw [bc_len, HLL.out] at e6; subst e6)
            have hB6 := below_and hB5 le hb6
            have hd6 := hd5.below hb6
            clear hd5 hB5 ho6 hf6 hb6
            go_wp2_with fail
            go_roundw
            case rel => exact ⟨k + 1, _, _, by omega, by go_num, hd6, HW.out, hf5, hB6⟩
            case measure => simp [intOf]; omega
      · have hki : decide ((k : Int) < (N : Int)) = false := by simp; omega
        go_wp2_with fail
        go_ret
        exact ⟨rfl, hB⟩
end Go.Proofs.Ytnalakdnjjmaaaa
