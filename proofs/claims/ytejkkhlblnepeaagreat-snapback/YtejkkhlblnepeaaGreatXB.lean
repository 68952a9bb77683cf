/- Two boxes and a value as results. -/
import Derived.Test.YtejkkhlblnepeaaGreatXA
import Derived.Test.YtejkkhlblnepeaaGreatHA
import Derived.Test.YtejkkhlblnepeaaGreatKg
import Derived.Test.YtejkkhlblnepeaaGreatKp
import Derived.Test.YtejkkhlblnepeaaGreatLc
section
set_option linter.unusedVariables false
set_option linter.unusedSimpArgs false
namespace Go.Proofs.YtejkkhlblnepeaaGreat
open Go.RowKit Oct Kvl

theorem withinN_any (w : World) (n a b : Int) : Calls Tryz.prog 32 #[.int .i64 n, .int .i64 a, .int .i64 b] w fun e w' => e = .returned (.bool (decide (a ≤ n ∧ n ≤ b))) ∧ w' = w := by
  by_cases h1 : a ≤ n
  · by_cases h2 : n ≤ b
    · rw [decide_eq_true ⟨h1, h2⟩]
      go_enter Tryz.func32, Tryz.ntmps32
      go_wp2_with fail
      go_ret
      exact ⟨rfl, rfl⟩
    · rw [decide_eq_false (fun h => h2 h.2)]
      have h2' : decide (n ≤ b) = false := by simp; omega
      go_enter Tryz.func32, Tryz.ntmps32
      go_wp2_with fail
      go_ret
      exact ⟨rfl, rfl⟩
  · rw [decide_eq_false (fun h => h1 h.1)]
    have h1' : decide (a ≤ n) = false := by simp; omega
    go_enter Tryz.func32, Tryz.ntmps32
    go_wp2_with fail
    go_ret
    exact ⟨rfl, rfl⟩
theorem isClientN_any (w : World) (n : Int) : Calls Tryz.prog 59 #[.int .i64 n] w fun e w' => e = .returned (.bool (decide (1 ≤ n ∧ n ≤ 4))) ∧ w' = w := by
  have hW := withinN_any w n 1 4
  generalize decide (1 ≤ n ∧ n ≤ 4) = d at hW ⊢
  go_enter Tryz.func59, Tryz.ntmps59
  go_wp2_with fail
  refine hW.mono ?_
  rintro e w1 ⟨rfl, rfl⟩
  go_wp2_with fail
  go_ret
  exact ⟨rfl, rfl⟩
theorem isStamp_any (w : World) (n : Int) : Calls Tryz.prog 60 #[.int .i64 n] w fun e w' => e = .returned (.bool (decide (1 ≤ n ∧ n ≤ 2147483647))) ∧ w' = w := by
  have hW := withinN_any w n 1 2147483647
  generalize decide (1 ≤ n ∧ n ≤ 2147483647) = d at hW ⊢
  go_enter Tryz.func60, Tryz.ntmps60
  go_wp2_with fail
  refine hW.mono ?_
  rintro e w1 ⟨rfl, rfl⟩
  go_wp2_with fail
  go_ret
  exact ⟨rfl, rfl⟩
set_option maxRecDepth 10000 in
theorem rightResult_any (w : World) (k : Int) (ao : Option Addr) (n cap : Nat) : Calls Tryz.prog 75 #[.agg #[.int .i64 k, .slice ao n cap]] w fun e w' => e = .returned (.bool (decide ((0 ≤ k ∧ k ≤ 6) ∧ n ≤ 64))) ∧ Below w.heap.size w w' := by
  have B0 := below_alloc w (.cells #[.int .i64 k, .slice ao n cap] 34)
  have c0 := (Row.new w 34 [.int .i64 k, .slice ao n cap]).cell (j := 0) rfl
  have c1 := (Row.new w 34 [.int .i64 k, .slice ao n cap]).cell (j := 1) rfl
  have hW := withinN_any (w.alloc (.cells #[.int .i64 k, .slice ao n cap] 34)) k 0 6
  by_cases hk : 0 ≤ k ∧ k ≤ 6
  · rw [decide_eq_true hk] at hW
    have HK := (show Hid (0 ≤ k ∧ k ≤ 6) from hk)
    clear hk
    by_cases hn : n ≤ 64
    · have hd : decide ((n : Int) ≤ 64) = true := by simp; omega
      have HR := (show Hid (n ≤ 64) from hn)
      clear hn
      go_enter Tryz.func75, Tryz.ntmps75
      go_wp2_with (go_at_call 32; refine hW.mono ?_; rintro e w2 ⟨rfl, rfl⟩)
      go_ret
      exact ⟨ret_bool (decide_eq_true ⟨HK.out, HR.out⟩).symm, B0⟩
    · have hd : decide ((n : Int) ≤ 64) = false := by simp; omega
      have HR := (show Hid (¬ n ≤ 64) from hn)
      clear hn
      go_enter Tryz.func75, Tryz.ntmps75
      go_wp2_with (go_at_call 32; refine hW.mono ?_; rintro e w2 ⟨rfl, rfl⟩)
      go_ret
      exact ⟨ret_bool (decide_eq_false fun h => HR.out h.2).symm, B0⟩
  · rw [decide_eq_false hk] at hW
    have HR := (show Hid (¬ (0 ≤ k ∧ k ≤ 6)) from hk)
    clear hk
    go_enter Tryz.func75, Tryz.ntmps75
    go_wp2_with (go_at_call 32; refine hW.mono ?_; rintro e w2 ⟨rfl, rfl⟩)
    go_ret
    exact ⟨ret_bool (decide_eq_false fun h => HR.out h.1).symm, B0⟩
end Go.Proofs.YtejkkhlblnepeaaGreat
end

section
set_option linter.unusedVariables false
set_option linter.unusedSimpArgs false
namespace Go.Proofs.YtejkkhlblnepeaaGreat
open Go.RowKit Oct Kvl

theorem rng2 {w : World} {b : Nat} {t : TypeId} {c d k a : Value} (h : Row w b t [c, d, k, a]) : w.rangeAt b 2 [k, a] := fun j v hj => h.cell (by
  match j, hj with
  | 0, hj => exact hj
  | 1, hj => exact hj)

set_option maxRecDepth 10000 in
set_option maxHeartbeats 4000000 in
/-- session.rightSessions. -/
theorem rightSess_any (w : World) (v : Value) (ys : List PEnt) (h : RL RSes 4 Any w v ys) :
    Calls Tryz.prog 35 #[v] w fun e w' => e = .returned (.bool (decide (rgtN ys))) ∧ Below w.heap.size w w' := by
  by_cases hl : 0 < ys.length
  rotate_left
  · obtain rfl : ys = [] := List.eq_nil_of_length_eq_zero (by omega)
    obtain ⟨ao, cap, rfl, _⟩ := h.form
    go_enter Tryz.func35, Tryz.ntmps35
    go_wp2_with fail
    refine wp_loop_rounds 1 ?_; rw [rounds_succ]
    go_wp2_with fail
    go_ret
    exact ⟨ret_bool (by decide), Below.refl _ _⟩
  obtain ⟨b, off, cap, rfl, hc, hm, _, hb, hx⟩ := h.at hl
  have HX := (show Hid (∀ (i : Nat) (a : PEnt), ys[i]? = some a → ∃ r, r.length = 4 ∧ w.rangeAt b (off + i * 4) r ∧ RSes Any w r a) from hx)
  have hlm : (ys.length : Int) ≤ 9223372036854775807 := by unfold maxLen at hm; omega
  clear hx h hm
  obtain ⟨n, hn⟩ : ∃ n, n = ys.length := ⟨_, rfl⟩
  rw [← hn] at hlm hl hc ⊢
  have HN := (show Hid (ys.length = n) from hn.symm)
  clear hn
  go_enter Tryz.func35, Tryz.ntmps35
  go_wp2_with fail
  go_loopw [3, 8] (fun s i wr => ∃ (q : Nat) (m : Int), q ≤ n ∧ i = .int .i64 q ∧ s = .int .i64 m ∧ Below w.heap.size w wr ∧ Hid (rgtN ys ↔ chkN m (ys.drop q))) (fun _ i _ => n - (intOf i).toNat)
  case atStart => exact ⟨0, 0, by omega, rfl, rfl, Below.refl _ _, Iff.rfl⟩
  case round =>
    obtain ⟨q, m, hq, rfl, rfl, hB, hI⟩ := hrel
    by_cases hql : q < n
    · obtain ⟨x, hx⟩ : ∃ x, ys[q]? = some x := ⟨_, List.getElem?_eq_getElem (by have := HN.out; omega)⟩
      obtain ⟨r, _, hrng, c1, d1, k1, s1, l1, rfl, t1, t2⟩ := HX.out q x hx
      have hrng := rangeAt_block hrng (hB.block b hb)
      obtain ⟨a1, cp1, rfl, hc1⟩ := t1.form
      have hrow0 := Row.new wr 43 [.int .i64 0, .int .i64 0, .int .i64 0, .slice none 0 0]
      have HD := (show Hid (ys.drop q = x :: ys.drop (q + 1)) from drop_cons hx)
      have HP := (show Hid (x = ([c1], d1 :: k1 :: l1)) from t2)
      have hone := onN4 (c := c1) (d := d1) (k := k1) t1.one
      clear hx t2 t1
      obtain ⟨L1, hL1⟩ : ∃ L, l1.length = L := ⟨_, rfl⟩
      rw [hL1] at hrng hone
      have HL := (show Hid (l1.length = L1) from hL1)
      clear hL1
      have HCL := (show Hid (∀ u, Calls Tryz.prog 59 #[.int .i64 c1] u fun e w' => e = .returned (.bool (decide (1 ≤ c1 ∧ c1 ≤ 4))) ∧ w' = u) from fun u => isClientN_any u c1)
      have HST := (show Hid (∀ u, Calls Tryz.prog 60 #[.int .i64 d1] u fun e w' => e = .returned (.bool (decide (1 ≤ d1 ∧ d1 ≤ 2147483647))) ∧ w' = u) from fun u => isStamp_any u d1)
      have HRS := (show Hid (∀ u, Calls Tryz.prog 75 #[.agg #[.int .i64 k1, .slice a1 L1 cp1]] u fun e w' => e = .returned (.bool (decide ((0 ≤ k1 ∧ k1 ≤ 6) ∧ L1 ≤ 64))) ∧ Below u.heap.size u w') from fun u => rightResult_any u k1 a1 L1 cp1)
      by_cases g1 : c1 ≤ m
      · go_wp2_with (first
          | (refine wpList_load_mid rfl _ _ rfl b (off + q * 4) rfl [.int .i64 c1, .int .i64 d1, .int .i64 k1, .slice a1 L1 cp1] _ hrng Tryz.underlying43 rfl (by kernel_rfl) ?_)
          | (refine wl_store rfl _ _ _ rfl wr.heap.size [.int .i64 c1, .int .i64 d1, .int .i64 k1, .slice a1 L1 cp1] rfl rfl _ _ hrow0 rfl (by kernel_rfl) hone ?_; intro w5 hr5 hg5; have hb5 : Below wr.heap.size wr w5 := (below_alloc wr _).trans (grown_below hg5 (by simp) (fun k hk => by cases hk; exact Nat.le_refl _)); have e0 := hr5.out.cell (j := 0) rfl; have e1 := hr5.out.cell (j := 1) rfl; have er := rng2 hr5.out))
        go_ret
        refine ⟨ret_bool (decide_eq_false fun h => ?_).symm, below_and hB (Nat.le_refl _) hb5⟩
        have h2 := hI.out.1 h
        rw [HD.out] at h2
        have h3 := h2.1.1
        rw [HP.out] at h3
        have h4 : m < c1 := h3
        omega
      have g1' : decide (c1 ≤ m) = false := by simp; omega
      by_cases g2 : 1 ≤ c1 ∧ c1 ≤ 4
      rotate_left
      · rw [decide_eq_false g2] at HCL
        go_wp2_with (first
          | (refine wpList_load_mid rfl _ _ rfl b (off + q * 4) rfl [.int .i64 c1, .int .i64 d1, .int .i64 k1, .slice a1 L1 cp1] _ hrng Tryz.underlying43 rfl (by kernel_rfl) ?_)
          | (refine wl_store rfl _ _ _ rfl wr.heap.size [.int .i64 c1, .int .i64 d1, .int .i64 k1, .slice a1 L1 cp1] rfl rfl _ _ hrow0 rfl (by kernel_rfl) hone ?_; intro w5 hr5 hg5; have hb5 : Below wr.heap.size wr w5 := (below_alloc wr _).trans (grown_below hg5 (by simp) (fun k hk => by cases hk; exact Nat.le_refl _)); have e0 := hr5.out.cell (j := 0) rfl; have e1 := hr5.out.cell (j := 1) rfl; have er := rng2 hr5.out)
          | (go_at_call 59; refine (HCL.out w5).mono ?_; rintro e w5 ⟨rfl, rfl⟩))
        go_ret
        refine ⟨ret_bool (decide_eq_false fun h => ?_).symm, below_and hB (Nat.le_refl _) hb5⟩
        have h2 := hI.out.1 h
        rw [HD.out] at h2
        have h3 := h2.1.2.1
        rw [HP.out] at h3
        exact g2 h3
      rw [decide_eq_true g2] at HCL
      by_cases g3 : 1 ≤ d1 ∧ d1 ≤ 2147483647
      rotate_left
      · rw [decide_eq_false g3] at HST
        go_wp2_with (first
          | (refine wpList_load_mid rfl _ _ rfl b (off + q * 4) rfl [.int .i64 c1, .int .i64 d1, .int .i64 k1, .slice a1 L1 cp1] _ hrng Tryz.underlying43 rfl (by kernel_rfl) ?_)
          | (refine wl_store rfl _ _ _ rfl wr.heap.size [.int .i64 c1, .int .i64 d1, .int .i64 k1, .slice a1 L1 cp1] rfl rfl _ _ hrow0 rfl (by kernel_rfl) hone ?_; intro w5 hr5 hg5; have hb5 : Below wr.heap.size wr w5 := (below_alloc wr _).trans (grown_below hg5 (by simp) (fun k hk => by cases hk; exact Nat.le_refl _)); have e0 := hr5.out.cell (j := 0) rfl; have e1 := hr5.out.cell (j := 1) rfl; have er := rng2 hr5.out)
          | (go_at_call 59; refine (HCL.out w5).mono ?_; rintro e w5 ⟨rfl, rfl⟩)
          | (go_at_call 60; refine (HST.out w5).mono ?_; rintro e w5 ⟨rfl, rfl⟩))
        go_ret
        refine ⟨ret_bool (decide_eq_false fun h => ?_).symm, below_and hB (Nat.le_refl _) hb5⟩
        have h2 := hI.out.1 h
        rw [HD.out] at h2
        have h3 := h2.1.2.2.1
        rw [HP.out] at h3
        exact g3 h3
      rw [decide_eq_true g3] at HST
      by_cases g4 : (0 ≤ k1 ∧ k1 ≤ 6) ∧ L1 ≤ 64
      rotate_left
      · rw [decide_eq_false g4] at HRS
        go_wp2_with (first
          | (refine wpList_load_mid rfl _ _ rfl b (off + q * 4) rfl [.int .i64 c1, .int .i64 d1, .int .i64 k1, .slice a1 L1 cp1] _ hrng Tryz.underlying43 rfl (by kernel_rfl) ?_)
          | (refine wl_store rfl _ _ _ rfl wr.heap.size [.int .i64 c1, .int .i64 d1, .int .i64 k1, .slice a1 L1 cp1] rfl rfl _ _ hrow0 rfl (by kernel_rfl) hone ?_; intro w5 hr5 hg5; have hb5 : Below wr.heap.size wr w5 := (below_alloc wr _).trans (grown_below hg5 (by simp) (fun k hk => by cases hk; exact Nat.le_refl _)); have e0 := hr5.out.cell (j := 0) rfl; have e1 := hr5.out.cell (j := 1) rfl; have er := rng2 hr5.out)
          | (go_at_call 59; refine (HCL.out w5).mono ?_; rintro e w5 ⟨rfl, rfl⟩)
          | (go_at_call 60; refine (HST.out w5).mono ?_; rintro e w5 ⟨rfl, rfl⟩)
          | (refine wl_load_mid_w (by rfl) _ _ rfl wr.heap.size 2 rfl [.int .i64 k1, .slice a1 L1 cp1] _ er Tryz.underlying34 rfl (by kernel_rfl) ?_)
          | (go_at_call 75; refine (HRS.out w5).mono ?_; rintro e w6 ⟨rfl, hb6⟩; have e0 := keepE (w := w5) hb6 e0))
        go_ret
        refine ⟨ret_bool (decide_eq_false fun h => ?_).symm, below_and hB (Nat.le_refl _) (below_and hb5 (Nat.le_refl _) hb6)⟩
        have h2 := hI.out.1 h
        rw [HD.out] at h2
        have h3 := h2.1.2.2.2
        rw [HP.out] at h3
        exact g4 ⟨h3.1, by rw [← HL.out]; exact h3.2⟩
      rw [decide_eq_true g4] at HRS
      go_wp2_with (first
        | (refine wpList_load_mid rfl _ _ rfl b (off + q * 4) rfl [.int .i64 c1, .int .i64 d1, .int .i64 k1, .slice a1 L1 cp1] _ hrng Tryz.underlying43 rfl (by kernel_rfl) ?_)
        | (refine wl_store rfl _ _ _ rfl wr.heap.size [.int .i64 c1, .int .i64 d1, .int .i64 k1, .slice a1 L1 cp1] rfl rfl _ _ hrow0 rfl (by kernel_rfl) hone ?_; intro w5 hr5 hg5; have hb5 : Below wr.heap.size wr w5 := (below_alloc wr _).trans (grown_below hg5 (by simp) (fun k hk => by cases hk; exact Nat.le_refl _)); have e0 := hr5.out.cell (j := 0) rfl; have e1 := hr5.out.cell (j := 1) rfl; have er := rng2 hr5.out)
        | (go_at_call 59; refine (HCL.out w5).mono ?_; rintro e w5 ⟨rfl, rfl⟩)
        | (go_at_call 60; refine (HST.out w5).mono ?_; rintro e w5 ⟨rfl, rfl⟩)
        | (refine wl_load_mid_w (by rfl) _ _ rfl wr.heap.size 2 rfl [.int .i64 k1, .slice a1 L1 cp1] _ er Tryz.underlying34 rfl (by kernel_rfl) ?_)
        | (go_at_call 75; refine (HRS.out w5).mono ?_; rintro e w6 ⟨rfl, hb6⟩; have e0 := keepE (w := w5) hb6 e0))
      go_roundw
      case rel =>
        refine ⟨q + 1, c1, by omega, by go_num, rfl, below_and hB (Nat.le_refl _) (below_and hb5 (Nat.le_refl _) hb6), ?_⟩
        have h1 := hI.out
        rw [HD.out, HP.out] at h1
        refine h1.trans ⟨fun h => h.2, fun h => ⟨⟨?_, g2, g3, g4.1, by rw [← HL.out] at g4; exact g4.2⟩, h⟩⟩
        show m < c1
        omega
      case measure => simp [intOf]; omega
    · have hqd : decide ((q : Int) < n) = false := by simp; omega
      go_wp2_with fail
      go_ret
      refine ⟨ret_bool (decide_eq_true ?_).symm, hB⟩
      rw [hI.out, List.drop_of_length_le (by have := HN.out; omega)]
      exact trivial

set_option maxRecDepth 10000 in
/-- session.isAtEnd. -/
theorem isAtEnd_any (w : World) (n : Int) (a b c : Value) : Calls Tryz.prog 25 #[.agg #[.int .i64 n, a, b, c]] w fun e w' => e = .returned (.bool (decide (1000000 ≤ n))) ∧ Below w.heap.size w w' := by
  have B0 := below_alloc w (.cells #[.int .i64 n, a, b, c] 26)
  have c0 := (Row.new w 26 [.int .i64 n, a, b, c]).cell (j := 0) rfl
  go_enter Tryz.func25, Tryz.ntmps25
  go_wp2_with fail
  go_ret
  exact ⟨rfl, B0⟩
end Go.Proofs.YtejkkhlblnepeaaGreat
end

section
set_option linter.unusedVariables false
set_option linter.unusedSimpArgs false
namespace Go.Proofs.YtejkkhlblnepeaaGreat
open Go.RowKit Oct Kvl

/-- A state that can be read. -/
def RApp (G : Nat → Prop) (w : World) (r : List Value) (a : PApp) : Prop := ∃ ve vl vs, r = [.int .i64 a.1, ve, vl, vs] ∧ RL REnt 2 G w ve a.2.1 ∧ RL RLea 3 G w vl a.2.2.1 ∧ RL RSes 4 G w vs a.2.2.2
/-- A state of the call's own, from block B on. -/
def OApp (B : Nat) (w : World) (r : List Value) (a : PApp) : Prop := ∃ ve vl vs, r = [.int .i64 a.1, ve, vl, vs] ∧ LB OEnt 82 2 B w ve a.2.1 ∧ LB OLea 84 3 B w vl a.2.2.1 ∧ LB OSes 43 4 B w vs a.2.2.2
theorem mov_app : Mov RApp := fun _ _ _ _ _ _ h hs hm => by
  obtain ⟨ve, vl, vs, e, h1, h2, h3⟩ := h
  exact ⟨ve, vl, vs, e, h1.mv mov_ent hs hm, h2.mv mov_lea hs hm, h3.mv mov_ses hs hm⟩
theorem RApp.below {w w' : World} {r : List Value} {a : PApp} (h : RApp Any w r a) (hb : Below w.heap.size w w') : RApp Any w' r a := mov_app _ _ _ _ _ _ h hb.size (Mv.below hb)
theorem OApp.below {B : Nat} {w w' : World} {r : List Value} {a : PApp} (h : OApp B w r a) (hb : Below w.heap.size w w') : OApp B w' r a := by
  obtain ⟨ve, vl, vs, e, h1, h2, h3⟩ := h
  exact ⟨ve, vl, vs, e, h1.below mov_oent hb, h2.below mov_olea hb, h3.below mov_oses hb⟩
theorem Rn.rl {B : Nat} {w : World} {v : Value} {ys : List PEnt} (h : LB OSes 43 4 B w v ys) : RL RSes 4 Any w v ys := (h.rl mov_oses).ses.mv mov_ses (Nat.le_refl _) Mv.any
theorem Re.rl {B : Nat} {w : World} {v : Value} {ys : List PEnt} (h : LB OEnt 82 2 B w v ys) : RL REnt 2 Any w v ys := (h.rl mov_oent).ent.mv mov_ent (Nat.le_refl _) Mv.any
theorem Rz.rl {B : Nat} {w : World} {v : Value} {ys : List PEnt} (h : LB OLea 84 3 B w v ys) : RL RLea 3 Any w v ys := (h.rl mov_olea).lea.mv mov_lea (Nat.le_refl _) Mv.any
theorem OApp.app {B : Nat} {w : World} {r : List Value} {a : PApp} (h : OApp B w r a) : RApp Any w r a := by
  obtain ⟨ve, vl, vs, e, h1, h2, h3⟩ := h
  exact ⟨ve, vl, vs, e, Re.rl h1, Rz.rl h2, Rn.rl h3⟩
theorem RApp.wf {G : Nat → Prop} {w : World} {r : List Value} {a : PApp} (h : RApp G w r a) : wfN a.2.2.2 := by
  obtain ⟨ve, vl, vs, e, h1, h2, h3⟩ := h
  exact h3.wf
def szA (a : PApp) : Prop := szL 48 szE a.2.1 ∧ szL 40 szS a.2.2.1 ∧ szL 48 szN a.2.2.2
theorem onA4 {n : Int} {a b c : Value} (ha : a.oneCell' = true) (hb : b.oneCell' = true) (hc : c.oneCell' = true) : ∀ x ∈ [Value.int .i64 n, a, b, c], x.oneCell' = true := by
  intro x hx
  simp only [List.mem_cons, List.not_mem_nil, or_false] at hx
  rcases hx with rfl | rfl | rfl | rfl <;> first | assumption | rfl
theorem RApp.one {G : Nat → Prop} {w : World} {r : List Value} {a : PApp} (h : RApp G w r a) : ∀ x ∈ r, x.oneCell' = true := by
  obtain ⟨ve, vl, vs, rfl, h1, h2, h3⟩ := h
  exact onA4 h1.one h2.one h3.one

set_option maxRecDepth 10000 in
/-- session.isNoRequest. -/
theorem isNo_any (w : World) (x : PReq) (ao ag : Option Addr) (co cg : Nat) : Calls Tryz.prog 58 #[.agg #[.int .i64 x.1, .int .i64 x.2.1, .slice ao x.2.2.1.length co, .slice ag x.2.2.2.length cg]] w fun e w' => e = .returned (.bool (decide (isZ x))) ∧ Below w.heap.size w w' := by
  obtain ⟨d, hd⟩ : ∃ d, d = decide (isZ x) := ⟨_, rfl⟩
  rw [← hd]
  obtain ⟨L1, h1⟩ : ∃ L, L = x.2.2.1.length := ⟨_, rfl⟩
  obtain ⟨L2, h2⟩ : ∃ L, L = x.2.2.2.length := ⟨_, rfl⟩
  obtain ⟨c, hc⟩ : ∃ c, c = x.1 := ⟨_, rfl⟩
  obtain ⟨s, hs⟩ : ∃ s, s = x.2.1 := ⟨_, rfl⟩
  have hd2 : d = decide (c = 0 ∧ s = 0 ∧ L1 = 0 ∧ L2 = 0) := by
    rw [hd, h1, h2, hc, hs]
    unfold isZ
    simp only [List.length_eq_zero_iff]
  rw [← h1, ← h2, ← hc, ← hs]
  clear h1 h2 hc hs hd
  have HD := (show Hid (d = decide (c = 0 ∧ s = 0 ∧ L1 = 0 ∧ L2 = 0)) from hd2)
  clear hd2
  have B0 := below_alloc w (.cells #[.int .i64 c, .int .i64 s, .slice ao L1 co, .slice ag L2 cg] 29)
  have r0 := Row.new w 29 [.int .i64 c, .int .i64 s, .slice ao L1 co, .slice ag L2 cg]
  have c0 := r0.cell (j := 0) rfl
  have c1 := r0.cell (j := 1) rfl
  have c2 := r0.cell (j := 2) rfl
  have c3 := r0.cell (j := 3) rfl
  clear r0
  by_cases g1 : c = 0
  rotate_left
  · have g1' : (c == 0) = false := by simp [g1]
    have HG := (show Hid (¬ c = 0) from g1)
    clear g1
    go_enter Tryz.func58, Tryz.ntmps58
    go_wp2_with fail
    go_ret
    refine ⟨ret_bool ?_, B0⟩
    rw [HD.out]
    exact (decide_eq_false fun h => HG.out h.1).symm
  have g1' : (c == 0) = true := by simp [g1]
  have HG1 := (show Hid (c = 0) from g1)
  clear g1
  by_cases g2 : s = 0
  rotate_left
  · have g2' : (s == 0) = false := by simp [g2]
    have HG := (show Hid (¬ s = 0) from g2)
    clear g2
    go_enter Tryz.func58, Tryz.ntmps58
    go_wp2_with fail
    go_ret
    refine ⟨ret_bool ?_, B0⟩
    rw [HD.out]
    exact (decide_eq_false fun h => HG.out h.2.1).symm
  have g2' : (s == 0) = true := by simp [g2]
  have HG2 := (show Hid (s = 0) from g2)
  clear g2
  by_cases g3 : L1 = 0
  rotate_left
  · have g3' : ((L1 : Int) == 0) = false := by simp; omega
    have HG := (show Hid (¬ L1 = 0) from g3)
    clear g3
    go_enter Tryz.func58, Tryz.ntmps58
    go_wp2_with fail
    go_ret
    refine ⟨ret_bool ?_, B0⟩
    rw [HD.out]
    exact (decide_eq_false fun h => HG.out h.2.2.1).symm
  have g3' : ((L1 : Int) == 0) = true := by simp [g3]
  have HG3 := (show Hid (L1 = 0) from g3)
  clear g3
  by_cases g4 : L2 = 0
  rotate_left
  · have g4' : ((L2 : Int) == 0) = false := by simp; omega
    have HG := (show Hid (¬ L2 = 0) from g4)
    clear g4
    go_enter Tryz.func58, Tryz.ntmps58
    go_wp2_with fail
    go_ret
    refine ⟨ret_bool ?_, B0⟩
    rw [HD.out]
    exact (decide_eq_false fun h => HG.out h.2.2.2).symm
  have g4' : ((L2 : Int) == 0) = true := by simp [g4]
  have HG4 := (show Hid (L2 = 0) from g4)
  clear g4
  go_enter Tryz.func58, Tryz.ntmps58
  go_wp2_with fail
  go_ret
  refine ⟨ret_bool ?_, B0⟩
  rw [HD.out]
  exact (decide_eq_true ⟨HG1.out, HG2.out, HG3.out, HG4.out⟩).symm

set_option maxRecDepth 10000 in
set_option maxHeartbeats 2000000 in
/-- session.Right. -/
theorem rightA_any (w : World) (r : List Value) (a : PApp) (h : RApp Any w r a) :
    Calls Tryz.prog 12 #[.agg r.toArray] w fun e w' => e = .returned (.bool (decide (rgtA a))) ∧ Below w.heap.size w w' := by
  obtain ⟨ve, vl, vs, rfl, h1, h2, h3⟩ := h
  obtain ⟨w0, hw0⟩ : ∃ w0, w0 = w.alloc (.cells #[.int .i64 a.1, ve, vl, vs] 26) := ⟨_, rfl⟩
  have B0 : Below w.heap.size w w0 := by rw [hw0]; exact below_alloc _ _
  have r0 : Row w0 w.heap.size 26 [.int .i64 a.1, ve, vl, vs] := by rw [hw0]; exact Row.new w 26 _
  have hW := withinN_any w0 a.1 0 1000000
  have HR1 := (show Hid (∀ u, Below w.heap.size w u → Calls Tryz.prog 33 #[ve] u fun e w' => e = .returned (.bool (decide (rgtL a.2.1))) ∧ Below u.heap.size u w') from fun u hu => right_any u _ _ (h1.mv mov_ent hu.size (Mv.below hu)))
  have HR2 := (show Hid (∀ u, Below w.heap.size w u → Calls Tryz.prog 34 #[vl] u fun e w' => e = .returned (.bool (decide (rgtS a.2.2.1))) ∧ Below u.heap.size u w') from fun u hu => rightS_any u _ _ (h2.mv mov_lea hu.size (Mv.below hu)))
  have HR3 := (show Hid (∀ u, Below w.heap.size w u → Calls Tryz.prog 35 #[vs] u fun e w' => e = .returned (.bool (decide (rgtN a.2.2.2))) ∧ Below u.heap.size u w') from fun u hu => rightSess_any u _ _ (h3.mv mov_ses hu.size (Mv.below hu)))
  have HD := (show Hid (decide (rgtA a) = (decide (0 ≤ a.1 ∧ a.1 ≤ 1000000) && (decide (rgtL a.2.1) && (decide (rgtS a.2.2.1) && decide (rgtN a.2.2.2))))) by
    show _ = _
    rw [Bool.eq_iff_iff]
    simp only [decide_eq_true_eq, Bool.and_eq_true]
    exact Iff.rfl)
  generalize decide (rgtA a) = d at *
  generalize decide (0 ≤ a.1 ∧ a.1 ≤ 1000000) = d0 at *
  generalize decide (rgtL a.2.1) = d1 at *
  generalize decide (rgtS a.2.2.1) = d2 at *
  generalize decide (rgtN a.2.2.2) = d3 at *
  clear h1 h2 h3
  have c0 := r0.cell (j := 0) rfl
  have c1 := r0.cell (j := 1) rfl
  cases d0 with
  | false =>
    go_enter Tryz.func12, Tryz.ntmps12
    go_upto_region 1 with fail
    rw [← hw0]
    clear hw0
    go_wp2_with (go_at_call 32; refine hW.mono ?_; rintro e w1 ⟨rfl, rfl⟩)
    go_ret
    exact ⟨ret_bool (by rw [HD.out]; rfl), B0⟩
  | true =>
    cases d1 with
    | false =>
      go_enter Tryz.func12, Tryz.ntmps12
      go_upto_region 1 with fail
      rw [← hw0]
      clear hw0
      go_wp2_with (first
        | (go_at_call 32; refine hW.mono ?_; rintro e w0 ⟨rfl, rfl⟩)
        | (go_at_call 33; refine (HR1.out _ B0).mono ?_; rintro e w1 ⟨rfl, hb1⟩))
      go_ret
      exact ⟨ret_bool (by rw [HD.out]; rfl), below_and B0 (Nat.le_refl _) hb1⟩
    | true =>
      cases d2 with
      | false =>
        go_enter Tryz.func12, Tryz.ntmps12
        go_upto_region 1 with fail
        rw [← hw0]
        clear hw0
        go_wp2_with (first
          | (go_at_call 32; refine hW.mono ?_; rintro e w0 ⟨rfl, rfl⟩)
          | (go_at_call 33; refine (HR1.out _ B0).mono ?_; rintro e w1 ⟨rfl, hb1⟩; have B1 := below_and B0 (Nat.le_refl _) hb1; have c2 := (r0.below hb1).cell (j := 2) rfl)
          | (go_at_call 34; refine (HR2.out _ B1).mono ?_; rintro e w2 ⟨rfl, hb2⟩))
        go_ret
        exact ⟨ret_bool (by rw [HD.out]; rfl), below_and B1 (Nat.le_refl _) hb2⟩
      | true =>
        go_enter Tryz.func12, Tryz.ntmps12
        go_upto_region 1 with fail
        rw [← hw0]
        clear hw0
        go_wp2_with (first
          | (go_at_call 32; refine hW.mono ?_; rintro e w0 ⟨rfl, rfl⟩)
          | (go_at_call 33; refine (HR1.out _ B0).mono ?_; rintro e w1 ⟨rfl, hb1⟩; have B1 := below_and B0 (Nat.le_refl _) hb1; have c2 := (r0.below hb1).cell (j := 2) rfl)
          | (go_at_call 34; refine (HR2.out _ B1).mono ?_; rintro e w2 ⟨rfl, hb2⟩; have B2 := below_and B1 (Nat.le_refl _) hb2; have c3 := ((r0.below hb1).below hb2).cell (j := 3) rfl)
          | (go_at_call 35; refine (HR3.out _ B2).mono ?_; rintro e w3 ⟨rfl, hb3⟩))
        go_ret
        exact ⟨ret_bool (by rw [HD.out]; rfl), below_and B2 (Nat.le_refl _) hb3⟩

set_option maxRecDepth 10000 in
set_option maxHeartbeats 2000000 in
/-- clone.App. -/
theorem cloneApp_any (w : World) (r : List Value) (a : PApp) (h : RApp Any w r a) (hz : szA a) :
    Calls Tryz.prog 24 #[.agg r.toArray] w fun e w' => ∃ r', e = .returned (.agg r'.toArray) ∧ OApp (w.heap.size + 2) w' r' a ∧ Below w.heap.size w w' := by
  obtain ⟨ve, vl, vs, rfl, h1, h2, h3⟩ := h
  obtain ⟨z1, z2, z3⟩ := hz
  obtain ⟨w2, hw2⟩ : ∃ w2, w2 = (w.alloc (.cells #[.int .i64 a.1, ve, vl, vs] 26)).alloc (.cells #[.int .i64 0, .slice none 0 0, .slice none 0 0, .slice none 0 0] 26) := ⟨_, rfl⟩
  have ra : Row w2 w.heap.size 26 [.int .i64 a.1, ve, vl, vs] := by rw [hw2]; exact rowA (Row.new w 26 _) _
  have rr : Row w2 (w.heap.size + 1) 26 [.int .i64 0, .slice none 0 0, .slice none 0 0, .slice none 0 0] := by
    rw [hw2]
    have := Row.new (w.alloc (.cells #[.int .i64 a.1, ve, vl, vs] 26)) 26 [.int .i64 0, .slice none 0 0, .slice none 0 0, .slice none 0 0]
    simpa using this
  have hB : Below w.heap.size w w2 := by rw [hw2]; exact ((Below.refl _ w).alloc (Nat.le_refl _) _).alloc (by simp) _
  have hsz : w2.heap.size = w.heap.size + 2 := by rw [hw2]; simp
  go_enter Tryz.func24, Tryz.ntmps24
  go_upto_region 1 with fail
  rw [← hw2]
  clear hw2
  have HS := (show Hid (w2.heap.size = w.heap.size + 2) from hsz)
  clear hsz
  have c2 := ra.cell (j := 1) rfl
  have hC1 := cloneEntries_any w2 ve _ (h1.mv mov_ent hB.size (Mv.below hB)) z1
  have HC2 := (show Hid (∀ u, Below w.heap.size w u → Calls Tryz.prog 55 #[vl] u fun e w' => ∃ v', e = .returned v' ∧ LB OLea 84 3 u.heap.size w' v' a.2.2.1 ∧ Below u.heap.size u w') from fun u hu => cloneLeases_any u _ _ (h2.mv mov_lea hu.size (Mv.below hu)) z2)
  have HC3 := (show Hid (∀ u, Below w.heap.size w u → Calls Tryz.prog 56 #[vs, .func (.func 57) #[] #[]] u fun e w' => ∃ v', e = .returned v' ∧ LB OSes 43 4 u.heap.size w' v' a.2.2.2 ∧ Below u.heap.size u w') from fun u hu => clistN_any u _ _ (h3.mv mov_ses hu.size (Mv.below hu)) z3)
  clear h1 h2 h3 z1 z2 z3
  go_upto_region 2 with (first
    | (go_at_call 54; refine hC1.mono ?_; rintro e w3 ⟨v3, rfl, f3, hb3⟩; have ra3 := ra.below hb3)
    | (refine wl_set rfl _ _ _ rfl w.heap.size 1 _ rfl rfl _ _ ra3 (show 1 < 4 by decide) (by kernel_rfl) f3.form ?_; intro w4 ra4 hg4))
  have ra4 : Row w4 w.heap.size 26 [.int .i64 a.1, v3, vl, vs] := ra4.out
  have hs2 := HS.out
  have hB3 := below_and hB (Nat.le_refl _) hb3
  have hB4 : Below w.heap.size w w4 := hB3.trans (grown_below hg4 hB3.size (fun k hk => by cases hk; exact Nat.le_refl _))
  have rr4 := (rr.below hb3).grown hg4 (fun e => by injection e with e; omega)
  have f4 : LB OEnt 82 2 (w.heap.size + 2) w4 v3 a.2.1 := (f3.weak mov_oent (by omega)).grown mov_oent hg4 (by omega)
  have hz4 : w.heap.size + 2 ≤ w4.heap.size := by have := hb3.size; have := hg4.size; omega
  have hC2 := HC2.out w4 hB4
  clear HC2 HS hs2 hC1 c2 ra3 f3 hb3 hg4 hB3 ra rr hB
  have c2 := ra4.cell (j := 2) rfl
  go_upto_region 3 with (first
    | (go_at_call 55; refine hC2.mono ?_; rintro e w5 ⟨v5, rfl, f5, hb5⟩; have ra5 := ra4.below hb5)
    | (refine wl_set rfl _ _ _ rfl w.heap.size 2 _ rfl rfl _ _ ra5 (show 2 < 4 by decide) (by kernel_rfl) f5.form ?_; intro w6 ra6 hg6))
  have ra6 : Row w6 w.heap.size 26 [.int .i64 a.1, v3, v5, vs] := ra6.out
  have hB5 := below_and hB4 (Nat.le_refl _) hb5
  have hB6 : Below w.heap.size w w6 := hB5.trans (grown_below hg6 hB5.size (fun k hk => by cases hk; exact Nat.le_refl _))
  have rr6 := (rr4.below hb5).grown hg6 (fun e => by injection e with e; omega)
  have f6 := (f4.below mov_oent hb5).grown mov_oent hg6 (by omega)
  have g6 : LB OLea 84 3 (w.heap.size + 2) w6 v5 a.2.2.1 := (f5.weak mov_olea (by omega)).grown mov_olea hg6 (by omega)
  have hz6 : w.heap.size + 2 ≤ w6.heap.size := by have := hb5.size; have := hg6.size; omega
  have hC3 := HC3.out w6 hB6
  clear HC3 hC2 c2 ra5 f5 hb5 hg6 hB5 ra4 rr4 hB4 f4 hz4
  have c2 := ra6.cell (j := 3) rfl
  go_upto_region 4 with (first
    | (go_at_call 56; refine hC3.mono ?_; rintro e w7 ⟨v7, rfl, f7, hb7⟩; have ra7 := ra6.below hb7)
    | (refine wl_set rfl _ _ _ rfl w.heap.size 3 _ rfl rfl _ _ ra7 (show 3 < 4 by decide) (by kernel_rfl) f7.form ?_; intro w8 ra8 hg8))
  have ra8 : Row w8 w.heap.size 26 [.int .i64 a.1, v3, v5, v7] := ra8.out
  have hB7 := below_and hB6 (Nat.le_refl _) hb7
  have hB8 : Below w.heap.size w w8 := hB7.trans (grown_below hg8 hB7.size (fun k hk => by cases hk; exact Nat.le_refl _))
  have rr8 := (rr6.below hb7).grown hg8 (fun e => by injection e with e; omega)
  have f8 := (f6.below mov_oent hb7).grown mov_oent hg8 (by omega)
  have g8 := (g6.below mov_olea hb7).grown mov_olea hg8 (by omega)
  have i8 : LB OSes 43 4 (w.heap.size + 2) w8 v7 a.2.2.2 := (f7.weak mov_oses (by omega)).grown mov_oses hg8 (by omega)
  clear hC3 c2 ra7 f7 hb7 hg8 hB7 ra6 rr6 hB6 f6 g6
  go_wp2_with (first
    | (refine wl_load rfl _ _ rfl w.heap.size rfl _ _ ra8 _ Tryz.underlying26 rfl (by kernel_rfl) ?_)
    | (refine wl_store rfl _ _ _ rfl (w.heap.size + 1) [.int .i64 a.1, v3, v5, v7] rfl rfl _ _ rr8 rfl (by kernel_rfl) (onA4 f8.form g8.form i8.form) ?_; intro w9 hr9 hg9))
  refine bodyPost_ret (v := .agg ([.int .i64 a.1, v3, v5, v7] : List Value).toArray) (results_cell_row rfl _ _ (w.heap.size + 1) _ _ (0, 0) _ (by rfl) hr9.out Tryz.underlying26 rfl (by kernel_rfl)) rfl ?_
  exact ⟨_, rfl, ⟨_, _, _, rfl, f8.grown mov_oent hg9 (by omega), g8.grown mov_olea hg9 (by omega), i8.grown mov_oses hg9 (by omega)⟩, hB8.trans (grown_below hg9 hB8.size (fun k hk => by cases hk; omega))⟩
end Go.Proofs.YtejkkhlblnepeaaGreat
end

section
set_option linter.unusedVariables false
set_option linter.unusedSimpArgs false
namespace Go.Proofs.YtejkkhlblnepeaaGreat
open Go.RowKit Oct Kvl

theorem results_cct {P : Program} {fn : Func} {p t s : Tmp} {ty uy : TypeId} (h : fn.results = #[.cell p ty, .cell t uy, .tmp s]) (tmps : Array Value) (w : World) (g g2 : Nat) (tt t2 : TypeId) (cs c2 : Array Value) (fr f2 : Nat × Nat) (d d2 : TypeDesc)
    (hp : tmps.getD p undef = .pointer (some ⟨g, 0, none⟩)) (hp2 : tmps.getD t undef = .pointer (some ⟨g2, 0, none⟩)) (hg : w.heap[g]? = some (.cells cs tt fr)) (hg2 : w.heap[g2]? = some (.cells c2 t2 f2))
    (hu : P.underlying ty = some d) (hd : (match d with | .struct _ | .array _ _ => true | _ => false) = true) (hi : (P.info? ty).map (·.size) = some cs.size)
    (hu2 : P.underlying uy = some d2) (hd2 : (match d2 with | .struct _ | .array _ _ => true | _ => false) = true) (hi2 : (P.info? uy).map (·.size) = some c2.size) :
    (results fn tmps).run P w = .ok (.tuple #[.agg cs, .agg c2, tmps.getD s undef]) w := by
  have hp' : tmps[p]?.getD undef = .pointer (some ⟨g, 0, none⟩) := by simpa using hp
  have hp2' : tmps[t]?.getD undef = .pointer (some ⟨g2, 0, none⟩) := by simpa using hp2
  simp [results, h, hp', hp2', asAddr, run_loadVar_row w g tt ty cs fr d hg hu hd hi, run_loadVar_row w g2 t2 uy c2 f2 d2 hg2 hu2 hd2 hi2]
theorem grown4S (w : World) (b : Nat) (v0 v1 v2 v3 : Value) : w.grownBy ((((w.setCell ⟨b, 0, none⟩ v0).setCell ⟨b, 1, none⟩ v1).setCell ⟨b, 2, none⟩ v2).setCell ⟨b, 3, none⟩ v3) (some b) :=
  grown_trans (grown_trans (grown_trans (grown_set w b 0 v0) (grown_set _ b 1 v1) (.inl rfl)) (grown_set _ b 2 v2) (.inl rfl)) (grown_set _ b 3 v3) (.inl rfl)
theorem two_rowsS {w : World} {b c : Nat} {t u : TypeId} {x0 x1 x2 x3 y0 y1 : Value} (h : Row w b t [x0, x1, x2, x3]) (k : Row w c u [y0, y1]) (hn : b ≠ c) (v0 v1 v2 v3 u0 u1 : Value) :
    ∃ w1, w.grownBy w1 (some b) ∧ w1.grownBy ((((((w.setCell ⟨b, 0, none⟩ v0).setCell ⟨b, 1, none⟩ v1).setCell ⟨b, 2, none⟩ v2).setCell ⟨b, 3, none⟩ v3).setCell ⟨c, 0, none⟩ u0).setCell ⟨c, 1, none⟩ u1).drew (some c) ∧
      Row w1 c u [y0, y1] ∧
      Row ((((((w.setCell ⟨b, 0, none⟩ v0).setCell ⟨b, 1, none⟩ v1).setCell ⟨b, 2, none⟩ v2).setCell ⟨b, 3, none⟩ v3).setCell ⟨c, 0, none⟩ u0).setCell ⟨c, 1, none⟩ u1).drew b t [v0, v1, v2, v3] ∧
      Row ((((((w.setCell ⟨b, 0, none⟩ v0).setCell ⟨b, 1, none⟩ v1).setCell ⟨b, 2, none⟩ v2).setCell ⟨b, 3, none⟩ v3).setCell ⟨c, 0, none⟩ u0).setCell ⟨c, 1, none⟩ u1).drew c u [u0, u1] := by
  have r1 : Row ((((w.setCell ⟨b, 0, none⟩ v0).setCell ⟨b, 1, none⟩ v1).setCell ⟨b, 2, none⟩ v2).setCell ⟨b, 3, none⟩ v3) b t [v0, v1, v2, v3] := (((h.set 0 v0).set 1 v1).set 2 v2).set 3 v3
  have g1 := grown4S w b v0 v1 v2 v3
  have k1 := k.grown g1 (fun e => hn (by injection e))
  generalize (((w.setCell ⟨b, 0, none⟩ v0).setCell ⟨b, 1, none⟩ v1).setCell ⟨b, 2, none⟩ v2).setCell ⟨b, 3, none⟩ v3 = w1 at *
  have g2 := grown_to_drew (grown_trans (grown_set w1 c 0 u0) (grown_set _ c 1 u1) (.inl rfl))
  exact ⟨w1, g1, g2, k1, r1.grown g2 (fun e => hn (by injection e with e; exact e.symm)), ((k1.set 0 u0).set 1 u1).drew⟩

end Go.Proofs.YtejkkhlblnepeaaGreat
end
