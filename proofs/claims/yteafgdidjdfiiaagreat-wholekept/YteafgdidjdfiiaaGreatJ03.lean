/- The walks over package session: rightSessions, isAtEnd, isNoRequest, Right. (Made by mk9g.py.) -/
import Derived.Test.YteafgdidjdfiiaaGreatJ02
import Derived.Test.YteafgdidjdfiiaaGreatLst
import Derived.Deep.QuietTactic
import Derived.BigQuiet
import Derived.Sort.AtCall
import Derived.Test.YteafgdidjdfiiaaGreatJ01
import Derived.Test.YteafgdidjdfiiaaGreatKg
section
set_option linter.unusedVariables false
set_option linter.unusedSimpArgs false
namespace Go.Proofs.YteafgdidjdfiiaaGreat
open Go.RowKit Oct Kvl

theorem keepE {w u : World} {p : Addr} {v : Value} (hb : Below w.heap.size w u) (h : w.cell? p = some v) : u.cell? p = some v := (hb.cell (World.block_lt_of_cell? w p h)).trans h
theorem own_sliceE {w : World} {e : TypeId} {v : Value} {xs : List Value} (h : Own w e v xs) : ∃ ao n cap, v = .slice ao n cap := by
  obtain ⟨ao, cap, e, _⟩ := h.form; exact ⟨ao, _, cap, e⟩
theorem take_lenE {α : Type} {ys : List α} {q : Nat} (h : q ≤ ys.length) : (ys.take q).length = q := by rw [List.length_take]; omega

theorem own_zero2 (w : World) (e : TypeId) : Own ((w.alloc (.cells #[] e)).alloc (.cells #[] e)) e (.slice (some ⟨w.heap.size + 1, 0, none⟩) 0 0) (bc []) := by
  rw [show w.heap.size + 1 = (w.alloc (.cells #[] e)).heap.size by simp]
  exact own_zero _ e
/-- Two empty texts are made, then one is filled. -/
theorem cp2 {w w6 : World} {v6 : Value} {l : List Int} {g1 g2 : Nat} (happ : App ((w.alloc (.cells #[] 5)).alloc (.cells #[] 5)).drew 5 (.slice (some ⟨g1, 0, none⟩) 0 0) w6 v6 (bc ([] ++ l))) (hg : (g1 = w.heap.size ∧ g2 = w.heap.size + 1) ∨ (g1 = w.heap.size + 1 ∧ g2 = w.heap.size)) (hb : Byt l) :
    Below w.heap.size w w6 ∧ RT (From w.heap.size) w6 v6 l ∧ Own w6 5 (.slice (some ⟨g2, 0, none⟩) 0 0) (bc []) ∧ v6.ownBlock ≠ some g2 := by
  rw [List.nil_append] at happ
  have h2 : Below w.heap.size w ((w.alloc (.cells #[] 5)).alloc (.cells #[] 5)).drew := (below_and (below_alloc w _) (Nat.le_refl _) (below_alloc _ _)).drew
  have hsz : ((w.alloc (.cells #[] 5)).alloc (.cells #[] 5)).drew.heap.size = w.heap.size + 2 := by simp
  have hg1 : w.heap.size ≤ g1 := by omega
  have hne : g1 ≠ g2 := by omega
  have ho2 : Own ((w.alloc (.cells #[] 5)).alloc (.cells #[] 5)).drew 5 (.slice (some ⟨g2, 0, none⟩) 0 0) (bc []) := by
    rcases hg with ⟨_, rfl⟩ | ⟨_, rfl⟩
    · exact (own_zero2 w 5).drew
    · exact ((own_zero w 5).below (below_alloc _ _)).drew
  refine ⟨h2.trans (happ.below (fr_at _ _ _ _ hg1) (by omega)), RT.own happ.own hb (happ.fr (fr_at _ _ _ _ hg1) (by omega)), ho2.grown happ.grown (fun k hk e => ?_), fun e => ?_⟩
  · simp [Value.ownBlock] at hk e
    omega
  · rcases happ.spot with h | h
    · rw [h] at e
      simp [Value.ownBlock] at e
      omega
    · have := h _ e
      omega
/-- Then the other. -/
theorem cp3 {w w6 w7 : World} {v6 v7 : Value} {l1 l2 : List Int} {g2 : Nat} (hb6 : Below w.heap.size w w6) (hR6 : RT (From w.heap.size) w6 v6 l1) (hne : v6.ownBlock ≠ some g2) (hg2 : w.heap.size ≤ g2) (happ : App w6 5 (.slice (some ⟨g2, 0, none⟩) 0 0) w7 v7 (bc ([] ++ l2))) (hb : Byt l2) :
    Below w.heap.size w w7 ∧ RT (From w.heap.size) w7 v6 l1 ∧ RT (From w.heap.size) w7 v7 l2 := by
  rw [List.nil_append] at happ
  refine ⟨hb6.trans (happ.below (fr_at _ _ _ _ hg2) hb6.size), ⟨hR6.1.grown happ.grown (fun _ k hk => ?_), hR6.2⟩, RT.own happ.own hb (happ.fr (fr_at _ _ _ _ hg2) hb6.size)⟩
  simp [Value.ownBlock] at hk
  rw [← hk]
  exact hne

end Go.Proofs.YteafgdidjdfiiaaGreat
end

section
set_option linter.unusedVariables false
set_option linter.unusedSimpArgs false
namespace Go.Proofs.YteafgdidjdfiiaaGreat
open Go.RowKit Oct Kvl

theorem bel_dnE {B : Nat} {a w : World} (h : Below B a w) (n : Nat) : Below B a (w.drewN n) := h.trans ⟨rfl, rfl, rfl, Nat.le_refl _, fun _ _ => rfl⟩

set_option maxHeartbeats 2000000 in
/-- The document's Same, of the same entries. -/
theorem sameE_eq (w : World) (u v : Value) (ys : List PEnt) (h1 : RL REnt 2 Any w u ys) (h2 : RL REnt 2 Any w v ys) :
    Calls Tryz.prog 36 #[u, v] w fun e w' => e = .returned (.bool true) ∧ Below w.heap.size w w' := by
  by_cases hl : 0 < ys.length
  · obtain ⟨b1, o1, c1, rfl, hc1, hm1, _, hb1, hx1⟩ := h1.at hl
    obtain ⟨b2, o2, c2, rfl, hc2, hm2, _, hb2, hx2⟩ := h2.at hl
    have H1 := (show Hid (∀ (i : Nat) (a : PEnt), ys[i]? = some a → ∃ r, r.length = 2 ∧ w.rangeAt b1 (o1 + i * 2) r ∧ REnt Any w r a) from hx1)
    have H2 := (show Hid (∀ (i : Nat) (a : PEnt), ys[i]? = some a → ∃ r, r.length = 2 ∧ w.rangeAt b2 (o2 + i * 2) r ∧ REnt Any w r a) from hx2)
    have hlm : (ys.length : Int) ≤ 9223372036854775807 := by unfold maxLen at hm1; omega
    clear hx1 hx2 h1 h2
    go_enter Tryz.func36, Tryz.ntmps36
    go_wp2_with fail
    go_loopw [13] (fun i wr => ∃ q : Nat, q ≤ ys.length ∧ i = .int .i64 q ∧ Below w.heap.size w wr) (fun i _ => ys.length - (intOf i).toNat)
    case atStart => exact ⟨0, by omega, rfl, Below.refl _ _⟩
    case round =>
      obtain ⟨q, hq, rfl, hB⟩ := hrel
      by_cases hql : q < ys.length
      · obtain ⟨a, ha⟩ : ∃ a, ys[q]? = some a := ⟨_, List.getElem?_eq_getElem hql⟩
        obtain ⟨r1, _, g1, s1, s2, rfl, t1, t2⟩ := H1.out q a ha
        obtain ⟨r2, _, g2, s3, s4, rfl, t3, t4⟩ := H2.out q a ha
        have d0 := rangeAt_block g1 (hB.block b1 hb1) 0 _ rfl
        have d1 := rangeAt_block g1 (hB.block b1 hb1) 1 _ rfl
        have d2 := rangeAt_block g2 (hB.block b2 hb2) 0 _ rfl
        have d3 := rangeAt_block g2 (hB.block b2 hb2) 1 _ rfl
        simp only [Nat.add_zero] at d0 d2
        have hS := (show Hid (∀ u, Below w.heap.size w u → Calls Tryz.prog 67 #[s1, s3] u fun e w' => e = .returned (.bool true) ∧ w' = u) from fun u hu => by
          have := same_any u s1 s3 _ _ (t1.mv (Mv.below hu)).1 (t3.mv (Mv.below hu)).1
          rw [decide_eq_true rfl] at this
          exact this)
        have hS' := (show Hid (∀ u, Below w.heap.size w u → Calls Tryz.prog 67 #[s2, s4] u fun e w' => e = .returned (.bool true) ∧ w' = u) from fun u hu => by
          have := same_any u s2 s4 _ _ (t2.mv (Mv.below hu)).1 (t4.mv (Mv.below hu)).1
          rw [decide_eq_true rfl] at this
          exact this)
        clear g1 g2 t1 t2 t3 t4 ha
        go_wp2_with fail
        go_quiet (first | (go_at_call_has 67 s1; exact quiet_as (hS.out _ (bel_dnE hB _)) rfl) | (go_at_call_has 67 s2; exact quiet_as (hS'.out _ (bel_dnE hB _)) rfl))
        go_wp2_with fail
        go_roundw
        case rel => exact ⟨q + 1, by omega, by go_num, bel_dnE hB _⟩
        case measure => simp [intOf]; omega
      · go_wp2_with fail
        go_ret
        exact ⟨rfl, hB⟩
  · obtain rfl : ys = [] := List.eq_nil_of_length_eq_zero (by omega)
    obtain ⟨ao, c1, rfl, _⟩ := h1.form
    obtain ⟨bo, c2, rfl, _⟩ := h2.form
    go_enter Tryz.func36, Tryz.ntmps36
    go_wp2_with fail
    refine wp_loop_rounds 1 ?_; rw [rounds_succ]
    go_wp2_with fail
    go_ret
    exact ⟨rfl, Below.refl _ _⟩

set_option maxHeartbeats 1000000 in
/-- SameResult, of the same results. -/
theorem sameR_eq (w : World) (c : Int) (u v : Value) (l : List Int) (h1 : Rd w u l) (h2 : Rd w v l) :
    Calls Tryz.prog 38 #[.agg #[.int .i64 c, u], .agg #[.int .i64 c, v]] w fun e w' => e = .returned (.bool true) ∧ Below w.heap.size w w' := by
  obtain ⟨w2, hw2⟩ : ∃ w2, w2 = (w.alloc (.cells #[.int .i64 c, u] 30)).alloc (.cells #[.int .i64 c, v] 30) := ⟨_, rfl⟩
  have ra : Row w2 w.heap.size 30 [.int .i64 c, u] := by rw [hw2]; exact rowA (Row.new w 30 _) _
  have rb : Row w2 (w.heap.size + 1) 30 [.int .i64 c, v] := by
    rw [hw2]
    have := Row.new (w.alloc (.cells #[.int .i64 c, u] 30)) 30 [.int .i64 c, v]
    simpa using this
  have hB : Below w.heap.size w w2 := by rw [hw2]; exact ((Below.refl _ w).alloc (Nat.le_refl _) _).alloc (by simp) _
  have a0 := ra.cell (j := 0) rfl; have a1 := ra.cell (j := 1) rfl
  have b0 := rb.cell (j := 0) rfl; have b1 := rb.cell (j := 1) rfl
  have sO := same_any w2 u v _ _ (h1.below hB) (h2.below hB)
  rw [decide_eq_true rfl] at sO
  have hc : (c == c) = true := by simp
  go_enter Tryz.func38, Tryz.ntmps38
  go_upto_region 1 with fail
  rw [← hw2]
  clear hw2
  go_wp2_with (go_at_call 67; refine sO.mono ?_; rintro e w3 ⟨rfl, rfl⟩)
  go_ret
  exact ⟨rfl, hB⟩
end Go.Proofs.YteafgdidjdfiiaaGreat
end

section
set_option linter.unusedVariables false
set_option linter.unusedSimpArgs false
namespace Go.Proofs.YteafgdidjdfiiaaGreat
open Go.RowKit Oct Kvl

theorem rng2 {w : World} {b : Nat} {t : TypeId} {c d k a : Value} (h : Row w b t [c, d, k, a]) : w.rangeAt b 2 [k, a] := fun j v hj => h.cell (by
  match j, hj with
  | 0, hj => exact hj
  | 1, hj => exact hj)

set_option maxRecDepth 10000 in
set_option maxHeartbeats 4000000 in
/-- session.rightSessions. -/
theorem rightSess_any (w : World) (v : Value) (ys : List PEnt) (h : RL RSes 4 Any w v ys) :
    Calls Tryz.prog 46 #[v] w fun e w' => e = .returned (.bool (decide (rgtN ys))) ∧ Below w.heap.size w w' := by
  by_cases hl : 0 < ys.length
  rotate_left
  · obtain rfl : ys = [] := List.eq_nil_of_length_eq_zero (by omega)
    obtain ⟨ao, cap, rfl, _⟩ := h.form
    go_enter Tryz.func46, Tryz.ntmps46
    go_wp2_with fail
    refine wp_loop_rounds 1 ?_; rw [rounds_succ]
    go_wp2_with fail
    go_ret
    exact ⟨ret_bool (by decide), Below.refl _ _⟩
  obtain ⟨b, off, cap, rfl, hc, hm, _, hb, hx⟩ := h.at hl
  have HX := (show Hid (∀ (i : Nat) (a : PEnt), ys[i]? = some a → ∃ r, r.length = 4 ∧ w.rangeAt b (off + i * 4) r ∧ RSes Any w r a) from hx)
  have hlm : (ys.length : Int) ≤ 9223372036854775807 := by unfold maxLen at hm; omega
  clear hx h hm
  obtain ⟨n, hn⟩ : ∃ n, n = ys.length := ⟨_, rfl⟩
  rw [← hn] at hlm hl hc ⊢
  have HN := (show Hid (ys.length = n) from hn.symm)
  clear hn
  go_enter Tryz.func46, Tryz.ntmps46
  go_wp2_with fail
  go_loopw [3, 8] (fun s i wr => ∃ (q : Nat) (m : Int), q ≤ n ∧ i = .int .i64 q ∧ s = .int .i64 m ∧ Below w.heap.size w wr ∧ Hid (rgtN ys ↔ chkN m (ys.drop q))) (fun _ i _ => n - (intOf i).toNat)
  case atStart => exact ⟨0, 0, by omega, rfl, rfl, Below.refl _ _, Iff.rfl⟩
  case round =>
    obtain ⟨q, m, hq, rfl, rfl, hB, hI⟩ := hrel
    by_cases hql : q < n
    · obtain ⟨x, hx⟩ : ∃ x, ys[q]? = some x := ⟨_, List.getElem?_eq_getElem (by have := HN.out; omega)⟩
      obtain ⟨r, _, hrng, c1, d1, k1, s1, l1, rfl, t1, t2⟩ := HX.out q x hx
      have hrng := rangeAt_block hrng (hB.block b hb)
      obtain ⟨a1, cp1, rfl, hc1⟩ := t1.form
      have hrow0 := Row.new wr 77 [.int .i64 0, .int .i64 0, .int .i64 0, .slice none 0 0]
      have HD := (show Hid (ys.drop q = x :: ys.drop (q + 1)) from drop_cons hx)
      have HP := (show Hid (x = ([c1], d1 :: k1 :: l1)) from t2)
      have hone := onN4 (c := c1) (d := d1) (k := k1) t1.one
      clear hx t2 t1
      obtain ⟨L1, hL1⟩ : ∃ L, l1.length = L := ⟨_, rfl⟩
      rw [hL1] at hrng hone
      have HL := (show Hid (l1.length = L1) from hL1)
      clear hL1
      have HCL := (show Hid (∀ u, Calls Tryz.prog 48 #[.int .i64 c1] u fun e w' => e = .returned (.bool (decide (1 ≤ c1 ∧ c1 ≤ 4))) ∧ w' = u) from fun u => isClientN_any u c1)
      have HST := (show Hid (∀ u, Calls Tryz.prog 49 #[.int .i64 d1] u fun e w' => e = .returned (.bool (decide (1 ≤ d1 ∧ d1 ≤ 2147483647))) ∧ w' = u) from fun u => isStamp_any u d1)
      have HRS := (show Hid (∀ u, Calls Tryz.prog 77 #[.agg #[.int .i64 k1, .slice a1 L1 cp1]] u fun e w' => e = .returned (.bool (decide ((0 ≤ k1 ∧ k1 ≤ 6) ∧ L1 ≤ 64))) ∧ Below u.heap.size u w') from fun u => rightResult_any u k1 a1 L1 cp1)
      by_cases g1 : c1 ≤ m
      · go_wp2_with (first
          | (refine wpList_load_mid rfl _ _ rfl b (off + q * 4) rfl [.int .i64 c1, .int .i64 d1, .int .i64 k1, .slice a1 L1 cp1] _ hrng Tryz.underlying77 rfl (by kernel_rfl) ?_)
          | (refine wl_store rfl _ _ _ rfl wr.heap.size [.int .i64 c1, .int .i64 d1, .int .i64 k1, .slice a1 L1 cp1] rfl rfl _ _ hrow0 rfl (by kernel_rfl) hone ?_; intro w5 hr5 hg5; have hb5 : Below wr.heap.size wr w5 := (below_alloc wr _).trans (grown_below hg5 (by simp) (fun k hk => by cases hk; exact Nat.le_refl _)); have e0 := hr5.out.cell (j := 0) rfl; have e1 := hr5.out.cell (j := 1) rfl; have er := rng2 hr5.out))
        go_ret
        refine ⟨ret_bool (decide_eq_false fun h => ?_).symm, below_and hB (Nat.le_refl _) hb5⟩
        have h2 := hI.out.1 h
        rw [HD.out] at h2
        have h3 := h2.1.1
        rw [HP.out] at h3
        have h4 : m < c1 := h3
        omega
      have g1' : decide (c1 ≤ m) = false := by simp; omega
      by_cases g2 : 1 ≤ c1 ∧ c1 ≤ 4
      rotate_left
      · rw [decide_eq_false g2] at HCL
        go_wp2_with (first
          | (refine wpList_load_mid rfl _ _ rfl b (off + q * 4) rfl [.int .i64 c1, .int .i64 d1, .int .i64 k1, .slice a1 L1 cp1] _ hrng Tryz.underlying77 rfl (by kernel_rfl) ?_)
          | (refine wl_store rfl _ _ _ rfl wr.heap.size [.int .i64 c1, .int .i64 d1, .int .i64 k1, .slice a1 L1 cp1] rfl rfl _ _ hrow0 rfl (by kernel_rfl) hone ?_; intro w5 hr5 hg5; have hb5 : Below wr.heap.size wr w5 := (below_alloc wr _).trans (grown_below hg5 (by simp) (fun k hk => by cases hk; exact Nat.le_refl _)); have e0 := hr5.out.cell (j := 0) rfl; have e1 := hr5.out.cell (j := 1) rfl; have er := rng2 hr5.out)
          | (go_at_call 48; refine (HCL.out w5).mono ?_; rintro e w5 ⟨rfl, rfl⟩))
        go_ret
        refine ⟨ret_bool (decide_eq_false fun h => ?_).symm, below_and hB (Nat.le_refl _) hb5⟩
        have h2 := hI.out.1 h
        rw [HD.out] at h2
        have h3 := h2.1.2.1
        rw [HP.out] at h3
        exact g2 h3
      rw [decide_eq_true g2] at HCL
      by_cases g3 : 1 ≤ d1 ∧ d1 ≤ 2147483647
      rotate_left
      · rw [decide_eq_false g3] at HST
        go_wp2_with (first
          | (refine wpList_load_mid rfl _ _ rfl b (off + q * 4) rfl [.int .i64 c1, .int .i64 d1, .int .i64 k1, .slice a1 L1 cp1] _ hrng Tryz.underlying77 rfl (by kernel_rfl) ?_)
          | (refine wl_store rfl _ _ _ rfl wr.heap.size [.int .i64 c1, .int .i64 d1, .int .i64 k1, .slice a1 L1 cp1] rfl rfl _ _ hrow0 rfl (by kernel_rfl) hone ?_; intro w5 hr5 hg5; have hb5 : Below wr.heap.size wr w5 := (below_alloc wr _).trans (grown_below hg5 (by simp) (fun k hk => by cases hk; exact Nat.le_refl _)); have e0 := hr5.out.cell (j := 0) rfl; have e1 := hr5.out.cell (j := 1) rfl; have er := rng2 hr5.out)
          | (go_at_call 48; refine (HCL.out w5).mono ?_; rintro e w5 ⟨rfl, rfl⟩)
          | (go_at_call 49; refine (HST.out w5).mono ?_; rintro e w5 ⟨rfl, rfl⟩))
        go_ret
        refine ⟨ret_bool (decide_eq_false fun h => ?_).symm, below_and hB (Nat.le_refl _) hb5⟩
        have h2 := hI.out.1 h
        rw [HD.out] at h2
        have h3 := h2.1.2.2.1
        rw [HP.out] at h3
        exact g3 h3
      rw [decide_eq_true g3] at HST
      by_cases g4 : (0 ≤ k1 ∧ k1 ≤ 6) ∧ L1 ≤ 64
      rotate_left
      · rw [decide_eq_false g4] at HRS
        go_wp2_with (first
          | (refine wpList_load_mid rfl _ _ rfl b (off + q * 4) rfl [.int .i64 c1, .int .i64 d1, .int .i64 k1, .slice a1 L1 cp1] _ hrng Tryz.underlying77 rfl (by kernel_rfl) ?_)
          | (refine wl_store rfl _ _ _ rfl wr.heap.size [.int .i64 c1, .int .i64 d1, .int .i64 k1, .slice a1 L1 cp1] rfl rfl _ _ hrow0 rfl (by kernel_rfl) hone ?_; intro w5 hr5 hg5; have hb5 : Below wr.heap.size wr w5 := (below_alloc wr _).trans (grown_below hg5 (by simp) (fun k hk => by cases hk; exact Nat.le_refl _)); have e0 := hr5.out.cell (j := 0) rfl; have e1 := hr5.out.cell (j := 1) rfl; have er := rng2 hr5.out)
          | (go_at_call 48; refine (HCL.out w5).mono ?_; rintro e w5 ⟨rfl, rfl⟩)
          | (go_at_call 49; refine (HST.out w5).mono ?_; rintro e w5 ⟨rfl, rfl⟩)
          | (refine wl_load_mid_w (by rfl) _ _ rfl wr.heap.size 2 rfl [.int .i64 k1, .slice a1 L1 cp1] _ er Tryz.underlying30 rfl (by kernel_rfl) ?_)
          | (go_at_call 77; refine (HRS.out w5).mono ?_; rintro e w6 ⟨rfl, hb6⟩; have e0 := keepE (w := w5) hb6 e0))
        go_ret
        refine ⟨ret_bool (decide_eq_false fun h => ?_).symm, below_and hB (Nat.le_refl _) (below_and hb5 (Nat.le_refl _) hb6)⟩
        have h2 := hI.out.1 h
        rw [HD.out] at h2
        have h3 := h2.1.2.2.2
        rw [HP.out] at h3
        exact g4 ⟨h3.1, by rw [← HL.out]; exact h3.2⟩
      rw [decide_eq_true g4] at HRS
      go_wp2_with (first
        | (refine wpList_load_mid rfl _ _ rfl b (off + q * 4) rfl [.int .i64 c1, .int .i64 d1, .int .i64 k1, .slice a1 L1 cp1] _ hrng Tryz.underlying77 rfl (by kernel_rfl) ?_)
        | (refine wl_store rfl _ _ _ rfl wr.heap.size [.int .i64 c1, .int .i64 d1, .int .i64 k1, .slice a1 L1 cp1] rfl rfl _ _ hrow0 rfl (by kernel_rfl) hone ?_; intro w5 hr5 hg5; have hb5 : Below wr.heap.size wr w5 := (below_alloc wr _).trans (grown_below hg5 (by simp) (fun k hk => by cases hk; exact Nat.le_refl _)); have e0 := hr5.out.cell (j := 0) rfl; have e1 := hr5.out.cell (j := 1) rfl; have er := rng2 hr5.out)
        | (go_at_call 48; refine (HCL.out w5).mono ?_; rintro e w5 ⟨rfl, rfl⟩)
        | (go_at_call 49; refine (HST.out w5).mono ?_; rintro e w5 ⟨rfl, rfl⟩)
        | (refine wl_load_mid_w (by rfl) _ _ rfl wr.heap.size 2 rfl [.int .i64 k1, .slice a1 L1 cp1] _ er Tryz.underlying30 rfl (by kernel_rfl) ?_)
        | (go_at_call 77; refine (HRS.out w5).mono ?_; rintro e w6 ⟨rfl, hb6⟩; have e0 := keepE (w := w5) hb6 e0))
      go_roundw
      case rel =>
        refine ⟨q + 1, c1, by omega, by go_num, rfl, below_and hB (Nat.le_refl _) (below_and hb5 (Nat.le_refl _) hb6), ?_⟩
        have h1 := hI.out
        rw [HD.out, HP.out] at h1
        refine h1.trans ⟨fun h => h.2, fun h => ⟨⟨?_, g2, g3, g4.1, by rw [← HL.out] at g4; exact g4.2⟩, h⟩⟩
        show m < c1
        omega
      case measure => simp [intOf]; omega
    · have hqd : decide ((q : Int) < n) = false := by simp; omega
      go_wp2_with fail
      go_ret
      refine ⟨ret_bool (decide_eq_true ?_).symm, hB⟩
      rw [hI.out, List.drop_of_length_le (by have := HN.out; omega)]
      exact trivial

set_option maxRecDepth 10000 in
/-- session.isAtEnd. -/
theorem isAtEnd_any (w : World) (n : Int) (a b c : Value) : Calls Tryz.prog 18 #[.agg #[.int .i64 n, a, b, c]] w fun e w' => e = .returned (.bool (decide (1000000 ≤ n))) ∧ Below w.heap.size w w' := by
  have B0 := below_alloc w (.cells #[.int .i64 n, a, b, c] 27)
  have c0 := (Row.new w 27 [.int .i64 n, a, b, c]).cell (j := 0) rfl
  go_enter Tryz.func18, Tryz.ntmps18
  go_wp2_with fail
  go_ret
  exact ⟨rfl, B0⟩
end Go.Proofs.YteafgdidjdfiiaaGreat
end
