/- States in memory; the walks over package session: isNoRequest, Right; over package clone: App. -/
import Derived.Test.YtejkkhlblnepeaaDoorXA
import Derived.Test.YtejkkhlblnepeaaDoorHA
import Derived.Test.YtejkkhlblnepeaaDoorKg
import Derived.Test.YtejkkhlblnepeaaDoorKp
import Derived.Test.YtejkkhlblnepeaaDoorLc
section
set_option linter.unusedVariables false
set_option linter.unusedSimpArgs false
namespace Go.Proofs.YtejkkhlblnepeaaDoor
open Go.RowKit Oct Kvl

theorem withinN_any (w : World) (n a b : Int) : Calls Tryd.prog 37 #[.int .i64 n, .int .i64 a, .int .i64 b] w fun e w' => e = .returned (.bool (decide (a ≤ n ∧ n ≤ b))) ∧ w' = w := by
  by_cases h1 : a ≤ n
  · by_cases h2 : n ≤ b
    · rw [decide_eq_true ⟨h1, h2⟩]
      go_enter Tryd.func37, Tryd.ntmps37
      go_wp2_with fail
      go_ret
      exact ⟨rfl, rfl⟩
    · rw [decide_eq_false (fun h => h2 h.2)]
      have h2' : decide (n ≤ b) = false := by simp; omega
      go_enter Tryd.func37, Tryd.ntmps37
      go_wp2_with fail
      go_ret
      exact ⟨rfl, rfl⟩
  · rw [decide_eq_false (fun h => h1 h.1)]
    have h1' : decide (a ≤ n) = false := by simp; omega
    go_enter Tryd.func37, Tryd.ntmps37
    go_wp2_with fail
    go_ret
    exact ⟨rfl, rfl⟩
theorem isClientN_any (w : World) (n : Int) : Calls Tryd.prog 60 #[.int .i64 n] w fun e w' => e = .returned (.bool (decide (1 ≤ n ∧ n ≤ 4))) ∧ w' = w := by
  have hW := withinN_any w n 1 4
  generalize decide (1 ≤ n ∧ n ≤ 4) = d at hW ⊢
  go_enter Tryd.func60, Tryd.ntmps60
  go_wp2_with fail
  refine hW.mono ?_
  rintro e w1 ⟨rfl, rfl⟩
  go_wp2_with fail
  go_ret
  exact ⟨rfl, rfl⟩
theorem isStamp_any (w : World) (n : Int) : Calls Tryd.prog 61 #[.int .i64 n] w fun e w' => e = .returned (.bool (decide (1 ≤ n ∧ n ≤ 2147483647))) ∧ w' = w := by
  have hW := withinN_any w n 1 2147483647
  generalize decide (1 ≤ n ∧ n ≤ 2147483647) = d at hW ⊢
  go_enter Tryd.func61, Tryd.ntmps61
  go_wp2_with fail
  refine hW.mono ?_
  rintro e w1 ⟨rfl, rfl⟩
  go_wp2_with fail
  go_ret
  exact ⟨rfl, rfl⟩
set_option maxRecDepth 10000 in
theorem rightResult_any (w : World) (k : Int) (ao : Option Addr) (n cap : Nat) : Calls Tryd.prog 62 #[.agg #[.int .i64 k, .slice ao n cap]] w fun e w' => e = .returned (.bool (decide ((0 ≤ k ∧ k ≤ 6) ∧ n ≤ 64))) ∧ Below w.heap.size w w' := by
  have B0 := below_alloc w (.cells #[.int .i64 k, .slice ao n cap] 55)
  have c0 := (Row.new w 55 [.int .i64 k, .slice ao n cap]).cell (j := 0) rfl
  have c1 := (Row.new w 55 [.int .i64 k, .slice ao n cap]).cell (j := 1) rfl
  have hW := withinN_any (w.alloc (.cells #[.int .i64 k, .slice ao n cap] 55)) k 0 6
  by_cases hk : 0 ≤ k ∧ k ≤ 6
  · rw [decide_eq_true hk] at hW
    have HK := (show Hid (0 ≤ k ∧ k ≤ 6) from hk)
    clear hk
    by_cases hn : n ≤ 64
    · have hd : decide ((n : Int) ≤ 64) = true := by simp; omega
      have HR := (show Hid (n ≤ 64) from hn)
      clear hn
      go_enter Tryd.func62, Tryd.ntmps62
      go_wp2_with (go_at_call 37; refine hW.mono ?_; rintro e w2 ⟨rfl, rfl⟩)
      go_ret
      exact ⟨ret_bool (decide_eq_true ⟨HK.out, HR.out⟩).symm, B0⟩
    · have hd : decide ((n : Int) ≤ 64) = false := by simp; omega
      have HR := (show Hid (¬ n ≤ 64) from hn)
      clear hn
      go_enter Tryd.func62, Tryd.ntmps62
      go_wp2_with (go_at_call 37; refine hW.mono ?_; rintro e w2 ⟨rfl, rfl⟩)
      go_ret
      exact ⟨ret_bool (decide_eq_false fun h => HR.out h.2).symm, B0⟩
  · rw [decide_eq_false hk] at hW
    have HR := (show Hid (¬ (0 ≤ k ∧ k ≤ 6)) from hk)
    clear hk
    go_enter Tryd.func62, Tryd.ntmps62
    go_wp2_with (go_at_call 37; refine hW.mono ?_; rintro e w2 ⟨rfl, rfl⟩)
    go_ret
    exact ⟨ret_bool (decide_eq_false fun h => HR.out h.1).symm, B0⟩
end Go.Proofs.YtejkkhlblnepeaaDoor
end

section
set_option linter.unusedVariables false
set_option linter.unusedSimpArgs false
namespace Go.Proofs.YtejkkhlblnepeaaDoor
open Go.RowKit Oct Kvl

theorem rng2 {w : World} {b : Nat} {t : TypeId} {c d k a : Value} (h : Row w b t [c, d, k, a]) : w.rangeAt b 2 [k, a] := fun j v hj => h.cell (by
  match j, hj with
  | 0, hj => exact hj
  | 1, hj => exact hj)

set_option maxRecDepth 10000 in
set_option maxHeartbeats 4000000 in
/-- session.rightSessions. -/
theorem rightSess_any (w : World) (v : Value) (ys : List PEnt) (h : RL RSes 4 Any w v ys) :
    Calls Tryd.prog 40 #[v] w fun e w' => e = .returned (.bool (decide (rgtN ys))) ∧ Below w.heap.size w w' := by
  by_cases hl : 0 < ys.length
  rotate_left
  · obtain rfl : ys = [] := List.eq_nil_of_length_eq_zero (by omega)
    obtain ⟨ao, cap, rfl, _⟩ := h.form
    go_enter Tryd.func40, Tryd.ntmps40
    go_wp2_with fail
    refine wp_loop_rounds 1 ?_; rw [rounds_succ]
    go_wp2_with fail
    go_ret
    exact ⟨ret_bool (by decide), Below.refl _ _⟩
  obtain ⟨b, off, cap, rfl, hc, hm, _, hb, hx⟩ := h.at hl
  have HX := (show Hid (∀ (i : Nat) (a : PEnt), ys[i]? = some a → ∃ r, r.length = 4 ∧ w.rangeAt b (off + i * 4) r ∧ RSes Any w r a) from hx)
  have hlm : (ys.length : Int) ≤ 9223372036854775807 := by unfold maxLen at hm; omega
  clear hx h hm
  obtain ⟨n, hn⟩ : ∃ n, n = ys.length := ⟨_, rfl⟩
  rw [← hn] at hlm hl hc ⊢
  have HN := (show Hid (ys.length = n) from hn.symm)
  clear hn
  go_enter Tryd.func40, Tryd.ntmps40
  go_wp2_with fail
  go_loopw [3, 8] (fun s i wr => ∃ (q : Nat) (m : Int), q ≤ n ∧ i = .int .i64 q ∧ s = .int .i64 m ∧ Below w.heap.size w wr ∧ Hid (rgtN ys ↔ chkN m (ys.drop q))) (fun _ i _ => n - (intOf i).toNat)
  case atStart => exact ⟨0, 0, by omega, rfl, rfl, Below.refl _ _, Iff.rfl⟩
  case round =>
    obtain ⟨q, m, hq, rfl, rfl, hB, hI⟩ := hrel
    by_cases hql : q < n
    · obtain ⟨x, hx⟩ : ∃ x, ys[q]? = some x := ⟨_, List.getElem?_eq_getElem (by have := HN.out; omega)⟩
      obtain ⟨r, _, hrng, c1, d1, k1, s1, l1, rfl, t1, t2⟩ := HX.out q x hx
      have hrng := rangeAt_block hrng (hB.block b hb)
      obtain ⟨a1, cp1, rfl, hc1⟩ := t1.form
      have hrow0 := Row.new wr 57 [.int .i64 0, .int .i64 0, .int .i64 0, .slice none 0 0]
      have HD := (show Hid (ys.drop q = x :: ys.drop (q + 1)) from drop_cons hx)
      have HP := (show Hid (x = ([c1], d1 :: k1 :: l1)) from t2)
      have hone := onN4 (c := c1) (d := d1) (k := k1) t1.one
      clear hx t2 t1
      obtain ⟨L1, hL1⟩ : ∃ L, l1.length = L := ⟨_, rfl⟩
      rw [hL1] at hrng hone
      have HL := (show Hid (l1.length = L1) from hL1)
      clear hL1
      have HCL := (show Hid (∀ u, Calls Tryd.prog 60 #[.int .i64 c1] u fun e w' => e = .returned (.bool (decide (1 ≤ c1 ∧ c1 ≤ 4))) ∧ w' = u) from fun u => isClientN_any u c1)
      have HST := (show Hid (∀ u, Calls Tryd.prog 61 #[.int .i64 d1] u fun e w' => e = .returned (.bool (decide (1 ≤ d1 ∧ d1 ≤ 2147483647))) ∧ w' = u) from fun u => isStamp_any u d1)
      have HRS := (show Hid (∀ u, Calls Tryd.prog 62 #[.agg #[.int .i64 k1, .slice a1 L1 cp1]] u fun e w' => e = .returned (.bool (decide ((0 ≤ k1 ∧ k1 ≤ 6) ∧ L1 ≤ 64))) ∧ Below u.heap.size u w') from fun u => rightResult_any u k1 a1 L1 cp1)
      by_cases g1 : c1 ≤ m
      · go_wp2_with (first
          | (refine wpList_load_mid rfl _ _ rfl b (off + q * 4) rfl [.int .i64 c1, .int .i64 d1, .int .i64 k1, .slice a1 L1 cp1] _ hrng Tryd.underlying57 rfl (by kernel_rfl) ?_)
          | (refine wl_store rfl _ _ _ rfl wr.heap.size [.int .i64 c1, .int .i64 d1, .int .i64 k1, .slice a1 L1 cp1] rfl rfl _ _ hrow0 rfl (by kernel_rfl) hone ?_; intro w5 hr5 hg5; have hb5 : Below wr.heap.size wr w5 := (below_alloc wr _).trans (grown_below hg5 (by simp) (fun k hk => by cases hk; exact Nat.le_refl _)); have e0 := hr5.out.cell (j := 0) rfl; have e1 := hr5.out.cell (j := 1) rfl; have er := rng2 hr5.out))
        go_ret
        refine ⟨ret_bool (decide_eq_false fun h => ?_).symm, below_and hB (Nat.le_refl _) hb5⟩
        have h2 := hI.out.1 h
        rw [HD.out] at h2
        have h3 := h2.1.1
        rw [HP.out] at h3
        have h4 : m < c1 := h3
        omega
      have g1' : decide (c1 ≤ m) = false := by simp; omega
      by_cases g2 : 1 ≤ c1 ∧ c1 ≤ 4
      rotate_left
      · rw [decide_eq_false g2] at HCL
        go_wp2_with (first
          | (refine wpList_load_mid rfl _ _ rfl b (off + q * 4) rfl [.int .i64 c1, .int .i64 d1, .int .i64 k1, .slice a1 L1 cp1] _ hrng Tryd.underlying57 rfl (by kernel_rfl) ?_)
          | (refine wl_store rfl _ _ _ rfl wr.heap.size [.int .i64 c1, .int .i64 d1, .int .i64 k1, .slice a1 L1 cp1] rfl rfl _ _ hrow0 rfl (by kernel_rfl) hone ?_; intro w5 hr5 hg5; have hb5 : Below wr.heap.size wr w5 := (below_alloc wr _).trans (grown_below hg5 (by simp) (fun k hk => by cases hk; exact Nat.le_refl _)); have e0 := hr5.out.cell (j := 0) rfl; have e1 := hr5.out.cell (j := 1) rfl; have er := rng2 hr5.out)
          | (go_at_call 60; refine (HCL.out w5).mono ?_; rintro e w5 ⟨rfl, rfl⟩))
        go_ret
        refine ⟨ret_bool (decide_eq_false fun h => ?_).symm, below_and hB (Nat.le_refl _) hb5⟩
        have h2 := hI.out.1 h
        rw [HD.out] at h2
        have h3 := h2.1.2.1
        rw [HP.out] at h3
        exact g2 h3
      rw [decide_eq_true g2] at HCL
      by_cases g3 : 1 ≤ d1 ∧ d1 ≤ 2147483647
      rotate_left
      · rw [decide_eq_false g3] at HST
        go_wp2_with (first
          | (refine wpList_load_mid rfl _ _ rfl b (off + q * 4) rfl [.int .i64 c1, .int .i64 d1, .int .i64 k1, .slice a1 L1 cp1] _ hrng Tryd.underlying57 rfl (by kernel_rfl) ?_)
          | (refine wl_store rfl _ _ _ rfl wr.heap.size [.int .i64 c1, .int .i64 d1, .int .i64 k1, .slice a1 L1 cp1] rfl rfl _ _ hrow0 rfl (by kernel_rfl) hone ?_; intro w5 hr5 hg5; have hb5 : Below wr.heap.size wr w5 := (below_alloc wr _).trans (grown_below hg5 (by simp) (fun k hk => by cases hk; exact Nat.le_refl _)); have e0 := hr5.out.cell (j := 0) rfl; have e1 := hr5.out.cell (j := 1) rfl; have er := rng2 hr5.out)
          | (go_at_call 60; refine (HCL.out w5).mono ?_; rintro e w5 ⟨rfl, rfl⟩)
          | (go_at_call 61; refine (HST.out w5).mono ?_; rintro e w5 ⟨rfl, rfl⟩))
        go_ret
        refine ⟨ret_bool (decide_eq_false fun h => ?_).symm, below_and hB (Nat.le_refl _) hb5⟩
        have h2 := hI.out.1 h
        rw [HD.out] at h2
        have h3 := h2.1.2.2.1
        rw [HP.out] at h3
        exact g3 h3
      rw [decide_eq_true g3] at HST
      by_cases g4 : (0 ≤ k1 ∧ k1 ≤ 6) ∧ L1 ≤ 64
      rotate_left
      · rw [decide_eq_false g4] at HRS
        go_wp2_with (first
          | (refine wpList_load_mid rfl _ _ rfl b (off + q * 4) rfl [.int .i64 c1, .int .i64 d1, .int .i64 k1, .slice a1 L1 cp1] _ hrng Tryd.underlying57 rfl (by kernel_rfl) ?_)
          | (refine wl_store rfl _ _ _ rfl wr.heap.size [.int .i64 c1, .int .i64 d1, .int .i64 k1, .slice a1 L1 cp1] rfl rfl _ _ hrow0 rfl (by kernel_rfl) hone ?_; intro w5 hr5 hg5; have hb5 : Below wr.heap.size wr w5 := (below_alloc wr _).trans (grown_below hg5 (by simp) (fun k hk => by cases hk; exact Nat.le_refl _)); have e0 := hr5.out.cell (j := 0) rfl; have e1 := hr5.out.cell (j := 1) rfl; have er := rng2 hr5.out)
          | (go_at_call 60; refine (HCL.out w5).mono ?_; rintro e w5 ⟨rfl, rfl⟩)
          | (go_at_call 61; refine (HST.out w5).mono ?_; rintro e w5 ⟨rfl, rfl⟩)
          | (refine wl_load_mid_w (by rfl) _ _ rfl wr.heap.size 2 rfl [.int .i64 k1, .slice a1 L1 cp1] _ er Tryd.underlying55 rfl (by kernel_rfl) ?_)
          | (go_at_call 62; refine (HRS.out w5).mono ?_; rintro e w6 ⟨rfl, hb6⟩; have e0 := keepE (w := w5) hb6 e0))
        go_ret
        refine ⟨ret_bool (decide_eq_false fun h => ?_).symm, below_and hB (Nat.le_refl _) (below_and hb5 (Nat.le_refl _) hb6)⟩
        have h2 := hI.out.1 h
        rw [HD.out] at h2
        have h3 := h2.1.2.2.2
        rw [HP.out] at h3
        exact g4 ⟨h3.1, by rw [← HL.out]; exact h3.2⟩
      rw [decide_eq_true g4] at HRS
      go_wp2_with (first
        | (refine wpList_load_mid rfl _ _ rfl b (off + q * 4) rfl [.int .i64 c1, .int .i64 d1, .int .i64 k1, .slice a1 L1 cp1] _ hrng Tryd.underlying57 rfl (by kernel_rfl) ?_)
        | (refine wl_store rfl _ _ _ rfl wr.heap.size [.int .i64 c1, .int .i64 d1, .int .i64 k1, .slice a1 L1 cp1] rfl rfl _ _ hrow0 rfl (by kernel_rfl) hone ?_; intro w5 hr5 hg5; have hb5 : Below wr.heap.size wr w5 := (below_alloc wr _).trans (grown_below hg5 (by simp) (fun k hk => by cases hk; exact Nat.le_refl _)); have e0 := hr5.out.cell (j := 0) rfl; have e1 := hr5.out.cell (j := 1) rfl; have er := rng2 hr5.out)
        | (go_at_call 60; refine (HCL.out w5).mono ?_; rintro e w5 ⟨rfl, rfl⟩)
        | (go_at_call 61; refine (HST.out w5).mono ?_; rintro e w5 ⟨rfl, rfl⟩)
        | (refine wl_load_mid_w (by rfl) _ _ rfl wr.heap.size 2 rfl [.int .i64 k1, .slice a1 L1 cp1] _ er Tryd.underlying55 rfl (by kernel_rfl) ?_)
        | (go_at_call 62; refine (HRS.out w5).mono ?_; rintro e w6 ⟨rfl, hb6⟩; have e0 := keepE (w := w5) hb6 e0))
      go_roundw
      case rel =>
        refine ⟨q + 1, c1, by omega, by go_num, rfl, below_and hB (Nat.le_refl _) (below_and hb5 (Nat.le_refl _) hb6), ?_⟩
        have h1 := hI.out
        rw [HD.out, HP.out] at h1
        refine h1.trans ⟨fun h => h.2, fun h => ⟨⟨?_, g2, g3, g4.1, by rw [← HL.out] at g4; exact g4.2⟩, h⟩⟩
        show m < c1
        omega
      case measure => simp [intOf]; omega
    · have hqd : decide ((q : Int) < n) = false := by simp; omega
      go_wp2_with fail
      go_ret
      refine ⟨ret_bool (decide_eq_true ?_).symm, hB⟩
      rw [hI.out, List.drop_of_length_le (by have := HN.out; omega)]
      exact trivial

end Go.Proofs.YtejkkhlblnepeaaDoor
end

section
set_option linter.unusedVariables false
set_option linter.unusedSimpArgs false
namespace Go.Proofs.YtejkkhlblnepeaaDoor
open Go.RowKit Oct Kvl

/-- A state that can be read. -/
def RApp (G : Nat → Prop) (w : World) (r : List Value) (a : PApp) : Prop := ∃ ve vl vs, r = [.int .i64 a.1, ve, vl, vs] ∧ RL REnt 2 G w ve a.2.1 ∧ RL RLea 3 G w vl a.2.2.1 ∧ RL RSes 4 G w vs a.2.2.2
/-- A state of the call's own, from block B on. -/
def OApp (B : Nat) (w : World) (r : List Value) (a : PApp) : Prop := ∃ ve vl vs, r = [.int .i64 a.1, ve, vl, vs] ∧ LB OEnt 51 2 B w ve a.2.1 ∧ LB OLea 53 3 B w vl a.2.2.1 ∧ LB OSes 57 4 B w vs a.2.2.2
theorem mov_app : Mov RApp := fun _ _ _ _ _ _ h hs hm => by
  obtain ⟨ve, vl, vs, e, h1, h2, h3⟩ := h
  exact ⟨ve, vl, vs, e, h1.mv mov_ent hs hm, h2.mv mov_lea hs hm, h3.mv mov_ses hs hm⟩
theorem RApp.below {w w' : World} {r : List Value} {a : PApp} (h : RApp Any w r a) (hb : Below w.heap.size w w') : RApp Any w' r a := mov_app _ _ _ _ _ _ h hb.size (Mv.below hb)
theorem OApp.below {B : Nat} {w w' : World} {r : List Value} {a : PApp} (h : OApp B w r a) (hb : Below w.heap.size w w') : OApp B w' r a := by
  obtain ⟨ve, vl, vs, e, h1, h2, h3⟩ := h
  exact ⟨ve, vl, vs, e, h1.below mov_oent hb, h2.below mov_olea hb, h3.below mov_oses hb⟩
theorem Rn.rl {B : Nat} {w : World} {v : Value} {ys : List PEnt} (h : LB OSes 57 4 B w v ys) : RL RSes 4 Any w v ys := (h.rl mov_oses).ses.mv mov_ses (Nat.le_refl _) Mv.any
theorem Re.rl {B : Nat} {w : World} {v : Value} {ys : List PEnt} (h : LB OEnt 51 2 B w v ys) : RL REnt 2 Any w v ys := (h.rl mov_oent).ent.mv mov_ent (Nat.le_refl _) Mv.any
theorem Rz.rl {B : Nat} {w : World} {v : Value} {ys : List PEnt} (h : LB OLea 53 3 B w v ys) : RL RLea 3 Any w v ys := (h.rl mov_olea).lea.mv mov_lea (Nat.le_refl _) Mv.any
theorem OApp.app {B : Nat} {w : World} {r : List Value} {a : PApp} (h : OApp B w r a) : RApp Any w r a := by
  obtain ⟨ve, vl, vs, e, h1, h2, h3⟩ := h
  exact ⟨ve, vl, vs, e, Re.rl h1, Rz.rl h2, Rn.rl h3⟩
theorem RApp.wf {G : Nat → Prop} {w : World} {r : List Value} {a : PApp} (h : RApp G w r a) : wfN a.2.2.2 := by
  obtain ⟨ve, vl, vs, e, h1, h2, h3⟩ := h
  exact h3.wf
def szA (a : PApp) : Prop := szL 48 szE a.2.1 ∧ szL 40 szS a.2.2.1 ∧ szL 48 szN a.2.2.2
theorem onA4 {n : Int} {a b c : Value} (ha : a.oneCell' = true) (hb : b.oneCell' = true) (hc : c.oneCell' = true) : ∀ x ∈ [Value.int .i64 n, a, b, c], x.oneCell' = true := by
  intro x hx
  simp only [List.mem_cons, List.not_mem_nil, or_false] at hx
  rcases hx with rfl | rfl | rfl | rfl <;> first | assumption | rfl
theorem RApp.one {G : Nat → Prop} {w : World} {r : List Value} {a : PApp} (h : RApp G w r a) : ∀ x ∈ r, x.oneCell' = true := by
  obtain ⟨ve, vl, vs, rfl, h1, h2, h3⟩ := h
  exact onA4 h1.one h2.one h3.one


set_option maxRecDepth 10000 in
set_option maxHeartbeats 2000000 in
/-- session.Right. -/
theorem rightA_any (w : World) (r : List Value) (a : PApp) (h : RApp Any w r a) :
    Calls Tryd.prog 19 #[.agg r.toArray] w fun e w' => e = .returned (.bool (decide (rgtA a))) ∧ Below w.heap.size w w' := by
  obtain ⟨ve, vl, vs, rfl, h1, h2, h3⟩ := h
  obtain ⟨w0, hw0⟩ : ∃ w0, w0 = w.alloc (.cells #[.int .i64 a.1, ve, vl, vs] 38) := ⟨_, rfl⟩
  have B0 : Below w.heap.size w w0 := by rw [hw0]; exact below_alloc _ _
  have r0 : Row w0 w.heap.size 38 [.int .i64 a.1, ve, vl, vs] := by rw [hw0]; exact Row.new w 38 _
  have hW := withinN_any w0 a.1 0 1000000
  have HR1 := (show Hid (∀ u, Below w.heap.size w u → Calls Tryd.prog 38 #[ve] u fun e w' => e = .returned (.bool (decide (rgtL a.2.1))) ∧ Below u.heap.size u w') from fun u hu => right_any u _ _ (h1.mv mov_ent hu.size (Mv.below hu)))
  have HR2 := (show Hid (∀ u, Below w.heap.size w u → Calls Tryd.prog 39 #[vl] u fun e w' => e = .returned (.bool (decide (rgtS a.2.2.1))) ∧ Below u.heap.size u w') from fun u hu => rightS_any u _ _ (h2.mv mov_lea hu.size (Mv.below hu)))
  have HR3 := (show Hid (∀ u, Below w.heap.size w u → Calls Tryd.prog 40 #[vs] u fun e w' => e = .returned (.bool (decide (rgtN a.2.2.2))) ∧ Below u.heap.size u w') from fun u hu => rightSess_any u _ _ (h3.mv mov_ses hu.size (Mv.below hu)))
  have HD := (show Hid (decide (rgtA a) = (decide (0 ≤ a.1 ∧ a.1 ≤ 1000000) && (decide (rgtL a.2.1) && (decide (rgtS a.2.2.1) && decide (rgtN a.2.2.2))))) by
    show _ = _
    rw [Bool.eq_iff_iff]
    simp only [decide_eq_true_eq, Bool.and_eq_true]
    exact Iff.rfl)
  generalize decide (rgtA a) = d at *
  generalize decide (0 ≤ a.1 ∧ a.1 ≤ 1000000) = d0 at *
  generalize decide (rgtL a.2.1) = d1 at *
  generalize decide (rgtS a.2.2.1) = d2 at *
  generalize decide (rgtN a.2.2.2) = d3 at *
  clear h1 h2 h3
  have c0 := r0.cell (j := 0) rfl
  have c1 := r0.cell (j := 1) rfl
  cases d0 with
  | false =>
    go_enter Tryd.func19, Tryd.ntmps19
    go_upto_region 1 with fail
    rw [← hw0]
    clear hw0
    go_wp2_with (go_at_call 37; refine hW.mono ?_; rintro e w1 ⟨rfl, rfl⟩)
    go_ret
    exact ⟨ret_bool (by rw [HD.out]; rfl), B0⟩
  | true =>
    cases d1 with
    | false =>
      go_enter Tryd.func19, Tryd.ntmps19
      go_upto_region 1 with fail
      rw [← hw0]
      clear hw0
      go_wp2_with (first
        | (go_at_call 37; refine hW.mono ?_; rintro e w0 ⟨rfl, rfl⟩)
        | (go_at_call 38; refine (HR1.out _ B0).mono ?_; rintro e w1 ⟨rfl, hb1⟩))
      go_ret
      exact ⟨ret_bool (by rw [HD.out]; rfl), below_and B0 (Nat.le_refl _) hb1⟩
    | true =>
      cases d2 with
      | false =>
        go_enter Tryd.func19, Tryd.ntmps19
        go_upto_region 1 with fail
        rw [← hw0]
        clear hw0
        go_wp2_with (first
          | (go_at_call 37; refine hW.mono ?_; rintro e w0 ⟨rfl, rfl⟩)
          | (go_at_call 38; refine (HR1.out _ B0).mono ?_; rintro e w1 ⟨rfl, hb1⟩; have B1 := below_and B0 (Nat.le_refl _) hb1; have c2 := (r0.below hb1).cell (j := 2) rfl)
          | (go_at_call 39; refine (HR2.out _ B1).mono ?_; rintro e w2 ⟨rfl, hb2⟩))
        go_ret
        exact ⟨ret_bool (by rw [HD.out]; rfl), below_and B1 (Nat.le_refl _) hb2⟩
      | true =>
        go_enter Tryd.func19, Tryd.ntmps19
        go_upto_region 1 with fail
        rw [← hw0]
        clear hw0
        go_wp2_with (first
          | (go_at_call 37; refine hW.mono ?_; rintro e w0 ⟨rfl, rfl⟩)
          | (go_at_call 38; refine (HR1.out _ B0).mono ?_; rintro e w1 ⟨rfl, hb1⟩; have B1 := below_and B0 (Nat.le_refl _) hb1; have c2 := (r0.below hb1).cell (j := 2) rfl)
          | (go_at_call 39; refine (HR2.out _ B1).mono ?_; rintro e w2 ⟨rfl, hb2⟩; have B2 := below_and B1 (Nat.le_refl _) hb2; have c3 := ((r0.below hb1).below hb2).cell (j := 3) rfl)
          | (go_at_call 40; refine (HR3.out _ B2).mono ?_; rintro e w3 ⟨rfl, hb3⟩))
        go_ret
        exact ⟨ret_bool (by rw [HD.out]; rfl), below_and B2 (Nat.le_refl _) hb3⟩

end Go.Proofs.YtejkkhlblnepeaaDoor
end
