/- catenarylaw10.SnapUnlike: its walk. -/
import Derived.Test.YtejkkhlblnepeabXH
import Derived.Test.YtejkkhlblnepeabKp
import Derived.Test.YtejkkhlblnepeabUC
import Derived.Test.YtejkkhlblnepeabUA
import Derived.Sort.AtCall
import Derived.Deep.RegionHeld3
section
set_option linter.unusedVariables false
set_option linter.unusedSimpArgs false
namespace Go.Proofs.Ytejkkhlblnepeab
open Go.RowKit Oct Kvl

theorem first_ne {α : Type} [DecidableEq α] : ∀ {ys zs : List α}, ys.length = zs.length → ys ≠ zs → ∃ (d : Nat) (y z : α), ys[d]? = some y ∧ zs[d]? = some z ∧ y ≠ z ∧ ∀ i, i < d → ys[i]? = zs[i]?
  | [], [], _, h => absurd rfl h
  | [], _ :: _, h, _ => by simp at h
  | _ :: _, [], h, _ => by simp at h
  | y :: ys, z :: zs, h, hn => by
    by_cases e : y = z
    · subst e
      obtain ⟨d, a, b, h1, h2, h3, h4⟩ := first_ne (ys := ys) (zs := zs) (by simpa using h) (fun e => hn (by rw [e]))
      refine ⟨d + 1, a, b, by simpa using h1, by simpa using h2, h3, fun i hi => ?_⟩
      cases i with
      | zero => rfl
      | succ i => simpa using h4 i (by omega)
    · exact ⟨0, y, z, rfl, rfl, e, fun i hi => by omega⟩

set_option maxRecDepth 10000 in
set_option maxHeartbeats 4000000 in
theorem sameE_ne (w : World) (u v : Value) (ys zs : List PEnt) (h1 : RL REnt 2 Any w u ys) (h2 : RL REnt 2 Any w v zs) (hne : ys ≠ zs) :
    Calls Try.prog 21 #[u, v] w fun e w' => e = .returned (.bool false) ∧ Below w.heap.size w w' := by
  by_cases hl : ys.length = zs.length
  rotate_left
  · obtain ⟨ao, c1, rfl, _⟩ := h1.form
    obtain ⟨bo, c2, rfl, _⟩ := h2.form
    have hd : ((ys.length : Int) != (zs.length : Int)) = true := by simp; omega
    have hd2 : (ys.length != zs.length) = true := by simp; omega
    clear h1 h2 hne
    generalize ys.length = N at *
    generalize zs.length = M at *
    go_enter Try.func21, Try.ntmps21
    go_wp2_with fail
    go_ret
    exact ⟨rfl, Below.refl _ _⟩
  obtain ⟨d, y, z, hy, hz, hyz, heq⟩ := first_ne hl hne
  have hdl := (List.getElem?_eq_some_iff.1 hy).1
  obtain ⟨b1, o1, c1, rfl, hc1, hm1, _, hb1, hx1⟩ := h1.at (by omega)
  obtain ⟨b2, o2, c2, rfl, hc2, hm2, _, hb2, hx2⟩ := h2.at (by omega)
  have H1 := (show Hid (∀ (i : Nat) (a : PEnt), ys[i]? = some a → ∃ r, r.length = 2 ∧ w.rangeAt b1 (o1 + i * 2) r ∧ REnt Any w r a) from hx1)
  have H2 := (show Hid (∀ (i : Nat) (a : PEnt), zs[i]? = some a → ∃ r, r.length = 2 ∧ w.rangeAt b2 (o2 + i * 2) r ∧ REnt Any w r a) from hx2)
  have HEQ := (show Hid (∀ i, i < d → ys[i]? = zs[i]?) from heq)
  have HY := (show Hid (ys[d]? = some y ∧ zs[d]? = some z ∧ y ≠ z) from ⟨hy, hz, hyz⟩)
  rw [← hl] at hc2 ⊢
  obtain ⟨N, hN⟩ : ∃ N, N = ys.length := ⟨_, rfl⟩
  rw [← hN] at hc1 hc2 hdl ⊢
  have HN := (show Hid (N = ys.length) from hN)
  have hlm : (N : Int) ≤ 9223372036854775807 := by unfold maxLen at hm1; omega
  have hnn : ((N : Int) != (N : Int)) = false := by simp
  clear hx1 hx2 h1 h2 hy hz hyz heq hl hne hN
  go_enter Try.func21, Try.ntmps21
  go_wp2_with fail
  go_loopw [13] (fun i wr => ∃ q : Nat, q ≤ d ∧ i = .int .i64 q ∧ Below w.heap.size w wr) (fun i _ => N - (intOf i).toNat)
  case atStart => exact ⟨0, by omega, rfl, Below.refl _ _⟩
  case round =>
    obtain ⟨q, hq, rfl, hB⟩ := hrel
    have hqi : (q : Int) < (N : Int) := by omega
    by_cases hqd : q < d
    · obtain ⟨a, ha⟩ : ∃ a, ys[q]? = some a := ⟨_, List.getElem?_eq_getElem (by have := HN.out; omega)⟩
      have hb := (HEQ.out q hqd).symm.trans ha
      obtain ⟨r1, _, g1, s1, s2, rfl, t1, t2⟩ := H1.out q a ha
      obtain ⟨r2, _, g2, s3, s4, rfl, t3, t4⟩ := H2.out q a hb
      have d0 := rangeAt_block g1 (hB.block b1 hb1) 0 _ rfl
      have f0 := rangeAt_block g2 (hB.block b2 hb2) 0 _ rfl
      have d1 := rangeAt_block g1 (hB.block b1 hb1) 1 _ rfl
      have f1 := rangeAt_block g2 (hB.block b2 hb2) 1 _ rfl
      simp only [Nat.add_zero] at d0 f0
      have hS := (show Hid (∀ u, Below w.heap.size w u → Calls Try.prog 8 #[s1, s3] u fun e w' => e = .returned (.bool true) ∧ w' = u) from fun u hu => by
        have := same_any u s1 s3 _ _ (t1.mv (Mv.below hu)).1 (t3.mv (Mv.below hu)).1
        rw [decide_eq_true rfl] at this
        exact this)
      have hT := (show Hid (∀ u, Below w.heap.size w u → Calls Try.prog 8 #[s2, s4] u fun e w' => e = .returned (.bool true) ∧ w' = u) from fun u hu => by
        have := same_any u s2 s4 _ _ (t2.mv (Mv.below hu)).1 (t4.mv (Mv.below hu)).1
        rw [decide_eq_true rfl] at this
        exact this)
      clear g1 g2 t1 t2 t3 t4 ha hb
      go_wp2_with fail
      go_quiet (first | (go_at_call_has 8 s1; exact quiet_as (hS.out _ (bel_dnE hB _)) rfl) | (go_at_call_has 8 s2; exact quiet_as (hT.out _ (bel_dnE hB _)) rfl))
      go_wp2_with fail
      go_roundw
      case rel => exact ⟨q + 1, by omega, by go_num, bel_dnE hB _⟩
      case measure => simp [intOf]; omega
    · obtain rfl : q = d := by omega
      obtain ⟨hy, hz, hyz⟩ := HY.out
      obtain ⟨r1, _, g1, s1, s2, rfl, t1, t2⟩ := H1.out q y hy
      obtain ⟨r2, _, g2, s3, s4, rfl, t3, t4⟩ := H2.out q z hz
      have d0 := rangeAt_block g1 (hB.block b1 hb1) 0 _ rfl
      have f0 := rangeAt_block g2 (hB.block b2 hb2) 0 _ rfl
      have d1 := rangeAt_block g1 (hB.block b1 hb1) 1 _ rfl
      have f1 := rangeAt_block g2 (hB.block b2 hb2) 1 _ rfl
      simp only [Nat.add_zero] at d0 f0
      by_cases HX : y.1 = z.1
      · have HX2 : ¬ y.2 = z.2 := fun e => hyz (Prod.ext HX e)
        have hS := (show Hid (∀ u, Below w.heap.size w u → Calls Try.prog 8 #[s1, s3] u fun e w' => e = .returned (.bool true) ∧ w' = u) from fun u hu => by
          have := same_any u s1 s3 _ _ (t1.mv (Mv.below hu)).1 (t3.mv (Mv.below hu)).1
          rw [decide_eq_true HX] at this
          exact this)
        have hT := (show Hid (∀ u, Below w.heap.size w u → Calls Try.prog 8 #[s2, s4] u fun e w' => e = .returned (.bool false) ∧ w' = u) from fun u hu => by
          have := same_any u s2 s4 _ _ (t2.mv (Mv.below hu)).1 (t4.mv (Mv.below hu)).1
          rw [decide_eq_false HX2] at this
          exact this)
        clear g1 g2 t1 t2 t3 t4 hy hz hyz HX HX2
        go_wp2_with fail
        go_quiet (first | (go_at_call_has 8 s1; exact quiet_as (hS.out _ (bel_dnE hB _)) rfl) | (go_at_call_has 8 s2; exact quiet_as (hT.out _ (bel_dnE hB _)) rfl))
        go_wp2_with fail
        go_ret
        exact ⟨rfl, bel_dnE hB _⟩
      · skip
        have hS := (show Hid (∀ u, Below w.heap.size w u → Calls Try.prog 8 #[s1, s3] u fun e w' => e = .returned (.bool false) ∧ w' = u) from fun u hu => by
          have := same_any u s1 s3 _ _ (t1.mv (Mv.below hu)).1 (t3.mv (Mv.below hu)).1
          rw [decide_eq_false HX] at this
          exact this)
        clear g1 g2 t1 t2 t3 t4 hy hz hyz HX
        go_wp2_with fail
        go_quiet ((go_at_call_has 8 s1; exact quiet_as (hS.out _ (bel_dnE hB _)) rfl))
        go_wp2_with fail
        go_ret
        exact ⟨rfl, bel_dnE hB _⟩

set_option maxRecDepth 10000 in
set_option maxHeartbeats 4000000 in
theorem sameS_ne (w : World) (u v : Value) (ys zs : List PEnt) (h1 : RL RLea 3 Any w u ys) (h2 : RL RLea 3 Any w v zs) (hne : ys ≠ zs) :
    Calls Try.prog 22 #[u, v] w fun e w' => e = .returned (.bool false) ∧ Below w.heap.size w w' := by
  by_cases hl : ys.length = zs.length
  rotate_left
  · obtain ⟨ao, c1, rfl, _⟩ := h1.form
    obtain ⟨bo, c2, rfl, _⟩ := h2.form
    have hd : ((ys.length : Int) != (zs.length : Int)) = true := by simp; omega
    have hd2 : (ys.length != zs.length) = true := by simp; omega
    clear h1 h2 hne
    generalize ys.length = N at *
    generalize zs.length = M at *
    go_enter Try.func22, Try.ntmps22
    go_wp2_with fail
    go_ret
    exact ⟨rfl, Below.refl _ _⟩
  obtain ⟨d, y, z, hy, hz, hyz, heq⟩ := first_ne hl hne
  have hdl := (List.getElem?_eq_some_iff.1 hy).1
  obtain ⟨b1, o1, c1, rfl, hc1, hm1, _, hb1, hx1⟩ := h1.at (by omega)
  obtain ⟨b2, o2, c2, rfl, hc2, hm2, _, hb2, hx2⟩ := h2.at (by omega)
  have H1 := (show Hid (∀ (i : Nat) (a : PEnt), ys[i]? = some a → ∃ r, r.length = 3 ∧ w.rangeAt b1 (o1 + i * 3) r ∧ RLea Any w r a) from hx1)
  have H2 := (show Hid (∀ (i : Nat) (a : PEnt), zs[i]? = some a → ∃ r, r.length = 3 ∧ w.rangeAt b2 (o2 + i * 3) r ∧ RLea Any w r a) from hx2)
  have HEQ := (show Hid (∀ i, i < d → ys[i]? = zs[i]?) from heq)
  have HY := (show Hid (ys[d]? = some y ∧ zs[d]? = some z ∧ y ≠ z) from ⟨hy, hz, hyz⟩)
  rw [← hl] at hc2 ⊢
  obtain ⟨N, hN⟩ : ∃ N, N = ys.length := ⟨_, rfl⟩
  rw [← hN] at hc1 hc2 hdl ⊢
  have HN := (show Hid (N = ys.length) from hN)
  have hlm : (N : Int) ≤ 9223372036854775807 := by unfold maxLen at hm1; omega
  have hnn : ((N : Int) != (N : Int)) = false := by simp
  clear hx1 hx2 h1 h2 hy hz hyz heq hl hne hN
  go_enter Try.func22, Try.ntmps22
  go_wp2_with fail
  go_loopw [13] (fun i wr => ∃ q : Nat, q ≤ d ∧ i = .int .i64 q ∧ Below w.heap.size w wr) (fun i _ => N - (intOf i).toNat)
  case atStart => exact ⟨0, by omega, rfl, Below.refl _ _⟩
  case round =>
    obtain ⟨q, hq, rfl, hB⟩ := hrel
    have hqi : (q : Int) < (N : Int) := by omega
    by_cases hqd : q < d
    · obtain ⟨a, ha⟩ : ∃ a, ys[q]? = some a := ⟨_, List.getElem?_eq_getElem (by have := HN.out; omega)⟩
      have hb := (HEQ.out q hqd).symm.trans ha
      obtain ⟨r1, _, g1, s1, p1, q1, rfl, t1, t2⟩ := H1.out q a ha
      obtain ⟨r2, _, g2, s3, p2, q2, rfl, t3, t4⟩ := H2.out q a hb
      have d0 := rangeAt_block g1 (hB.block b1 hb1) 0 _ rfl
      have f0 := rangeAt_block g2 (hB.block b2 hb2) 0 _ rfl
      have d1 := rangeAt_block g1 (hB.block b1 hb1) 1 _ rfl
      have f1 := rangeAt_block g2 (hB.block b2 hb2) 1 _ rfl
      have d2 := rangeAt_block g1 (hB.block b1 hb1) 2 _ rfl
      have f2 := rangeAt_block g2 (hB.block b2 hb2) 2 _ rfl
      simp only [Nat.add_zero] at d0 f0
      have hS := (show Hid (∀ u, Below w.heap.size w u → Calls Try.prog 8 #[s1, s3] u fun e w' => e = .returned (.bool true) ∧ w' = u) from fun u hu => by
        have := same_any u s1 s3 _ _ (t1.mv (Mv.below hu)).1 (t3.mv (Mv.below hu)).1
        rw [decide_eq_true rfl] at this
        exact this)
      rw [t2] at t4
      injection t4 with u1 u2
      injection u2 with u2 _
      subst u1 u2
      have hp : (p1 != p1) = false := by simp
      have hq' : (q1 != q1) = false := by simp
      clear g1 g2 t1 t2 t3 ha hb
      go_wp2_with fail
      go_big_quiet ((go_at_call 8; exact quiet_as (hS.out _ (bel_dnE hB _)) rfl))
      go_wp2_with fail
      go_roundw
      case rel => exact ⟨q + 1, by omega, by go_num, bel_dnE hB _⟩
      case measure => simp [intOf]; omega
    · obtain rfl : q = d := by omega
      obtain ⟨hy, hz, hyz⟩ := HY.out
      obtain ⟨r1, _, g1, s1, p1, q1, rfl, t1, t2⟩ := H1.out q y hy
      obtain ⟨r2, _, g2, s3, p2, q2, rfl, t3, t4⟩ := H2.out q z hz
      have d0 := rangeAt_block g1 (hB.block b1 hb1) 0 _ rfl
      have f0 := rangeAt_block g2 (hB.block b2 hb2) 0 _ rfl
      have d1 := rangeAt_block g1 (hB.block b1 hb1) 1 _ rfl
      have f1 := rangeAt_block g2 (hB.block b2 hb2) 1 _ rfl
      have d2 := rangeAt_block g1 (hB.block b1 hb1) 2 _ rfl
      have f2 := rangeAt_block g2 (hB.block b2 hb2) 2 _ rfl
      simp only [Nat.add_zero] at d0 f0
      by_cases HX : y.1 = z.1
      · skip
        have hS := (show Hid (∀ u, Below w.heap.size w u → Calls Try.prog 8 #[s1, s3] u fun e w' => e = .returned (.bool true) ∧ w' = u) from fun u hu => by
          have := same_any u s1 s3 _ _ (t1.mv (Mv.below hu)).1 (t3.mv (Mv.below hu)).1
          rw [decide_eq_true HX] at this
          exact this)
        by_cases HP : p1 = p2
        · have HQ : ¬ q1 = q2 := fun e => hyz (Prod.ext HX (by rw [t2, t4, HP, e]))
          have hp : (p1 != p2) = false := by simp [HP]
          have hq' : (q1 != q2) = true := by simp [HQ]
          clear g1 g2 t1 t2 t3 t4 hy hz hyz HX HP
          go_wp2_with fail
          go_big_quiet ((go_at_call 8; exact quiet_as (hS.out _ (bel_dnE hB _)) rfl))
          go_wp2_with fail
          go_ret
          exact ⟨rfl, bel_dnE hB _⟩
        · have hp : (p1 != p2) = true := by simp [HP]
          clear g1 g2 t1 t2 t3 t4 hy hz hyz HX
          go_wp2_with fail
          go_big_quiet ((go_at_call 8; exact quiet_as (hS.out _ (bel_dnE hB _)) rfl))
          go_wp2_with fail
          go_ret
          exact ⟨rfl, bel_dnE hB _⟩
      · skip
        have hS := (show Hid (∀ u, Below w.heap.size w u → Calls Try.prog 8 #[s1, s3] u fun e w' => e = .returned (.bool false) ∧ w' = u) from fun u hu => by
          have := same_any u s1 s3 _ _ (t1.mv (Mv.below hu)).1 (t3.mv (Mv.below hu)).1
          rw [decide_eq_false HX] at this
          exact this)
        clear g1 g2 t1 t2 t3 t4 hy hz hyz HX
        go_wp2_with fail
        go_big_quiet ((go_at_call 8; exact quiet_as (hS.out _ (bel_dnE hB _)) rfl))
        go_wp2_with fail
        go_ret
        exact ⟨rfl, bel_dnE hB _⟩

set_option maxHeartbeats 1000000 in
/-- SameResult, of results unlike. -/
theorem sameR_ne (w : World) (c c' : Int) (u v : Value) (l l' : List Int) (h1 : Rd w u l) (h2 : Rd w v l') (hne : ¬ (c = c' ∧ l = l')) :
    Calls Try.prog 23 #[.agg #[.int .i64 c, u], .agg #[.int .i64 c', v]] w fun e w' => e = .returned (.bool false) ∧ Below w.heap.size w w' := by
  obtain ⟨w2, hw2⟩ : ∃ w2, w2 = (w.alloc (.cells #[.int .i64 c, u] 47)).alloc (.cells #[.int .i64 c', v] 47) := ⟨_, rfl⟩
  have ra : Row w2 w.heap.size 47 [.int .i64 c, u] := by rw [hw2]; exact rowA (Row.new w 47 _) _
  have rb : Row w2 (w.heap.size + 1) 47 [.int .i64 c', v] := by
    rw [hw2]
    have := Row.new (w.alloc (.cells #[.int .i64 c, u] 47)) 47 [.int .i64 c', v]
    simpa using this
  have hB : Below w.heap.size w w2 := by rw [hw2]; exact ((Below.refl _ w).alloc (Nat.le_refl _) _).alloc (by simp) _
  have a0 := ra.cell (j := 0) rfl; have a1 := ra.cell (j := 1) rfl
  have b0 := rb.cell (j := 0) rfl; have b1 := rb.cell (j := 1) rfl
  by_cases hcc : c = c'
  · have hll : ¬ l = l' := fun e => hne ⟨hcc, e⟩
    have sO := same_any w2 u v _ _ (h1.below hB) (h2.below hB)
    rw [decide_eq_false hll] at sO
    have hc : (c == c') = true := by simp [hcc]
    clear hcc hll hne
    go_enter Try.func23, Try.ntmps23
    go_upto_region 1 with fail
    rw [← hw2]
    clear hw2
    go_wp2_with (go_at_call 8; refine sO.mono ?_; rintro e w3 ⟨rfl, rfl⟩)
    go_ret
    exact ⟨rfl, hB⟩
  · have hc : (c == c') = false := by simp [hcc]
    clear hne
    go_enter Try.func23, Try.ntmps23
    go_upto_region 1 with fail
    rw [← hw2]
    clear hw2
    go_wp2_with fail
    go_ret
    exact ⟨rfl, hB⟩

end Go.Proofs.Ytejkkhlblnepeab
end

section
set_option linter.unusedVariables false
set_option linter.unusedSimpArgs false
namespace Go.Proofs.Ytejkkhlblnepeab
open Go.RowKit Oct Kvl

set_option maxRecDepth 10000 in
set_option maxHeartbeats 8000000 in
/-- The document's Same, of states unlike. -/
theorem sameA_ne (w : World) (r1 r2 : List Value) (a b : PApp) (h : RApp Any w r1 a) (k : RApp Any w r2 b) (hne : a ≠ b) :
    Calls Try.prog 9 #[.agg r1.toArray, .agg r2.toArray] w fun e w' => e = .returned (.bool false) ∧ Below w.heap.size w w' := by
  have le := Nat.le_refl w.heap.size
  obtain ⟨ve, vl, vs, rfl, h1, h2, h3⟩ := h
  obtain ⟨ue, ul, us, rfl, k1, k2, k3⟩ := k
  obtain ⟨asv, cs, rfl, hcs⟩ := h3.form
  obtain ⟨asu, cu, rfl, hcu⟩ := k3.form
  obtain ⟨w2, hw2⟩ : ∃ w2, w2 = (w.alloc (.cells #[.int .i64 a.1, ve, vl, .slice asv a.2.2.2.length cs] 26)).alloc (.cells #[.int .i64 b.1, ue, ul, .slice asu b.2.2.2.length cu] 26) := ⟨_, rfl⟩
  have ra : Row w2 w.heap.size 26 [.int .i64 a.1, ve, vl, .slice asv a.2.2.2.length cs] := by rw [hw2]; exact rowA (Row.new w 26 _) _
  have rb : Row w2 (w.heap.size + 1) 26 [.int .i64 b.1, ue, ul, .slice asu b.2.2.2.length cu] := by
    rw [hw2]
    have := Row.new (w.alloc (.cells #[.int .i64 a.1, ve, vl, .slice asv a.2.2.2.length cs] 26)) 26 [.int .i64 b.1, ue, ul, .slice asu b.2.2.2.length cu]
    simpa using this
  have hB : Below w.heap.size w w2 := by rw [hw2]; exact ((Below.refl _ w).alloc (Nat.le_refl _) _).alloc (by simp) _
  have c0 := ra.cell (j := 0) rfl
  have c1 := ra.cell (j := 1) rfl
  have d0 := rb.cell (j := 0) rfl
  have d1 := rb.cell (j := 1) rfl
  by_cases hs : a.1 = b.1
  rotate_left
  · have hn1 : (a.1 != b.1) = true := by simp [hs]
    clear h1 h2 h3 k1 k2 k3 hne
    go_enter Try.func9, Try.ntmps9
    go_upto_region 1 with fail
    rw [← hw2]
    clear hw2
    go_wp2_with fail
    go_ret
    exact ⟨rfl, hB⟩
  have hn1 : (a.1 != b.1) = false := by simp [hs]
  by_cases he : a.2.1 = b.2.1
  rotate_left
  · have hS1 := sameE_ne w2 ve ue _ _ (h1.mv mov_ent hB.size (Mv.below hB)) (k1.mv mov_ent hB.size (Mv.below hB)) he
    clear h1 h2 h3 k1 k2 k3 hne hs he
    go_enter Try.func9, Try.ntmps9
    go_upto_region 1 with fail
    rw [← hw2]
    clear hw2
    go_wp2_with (go_at_call 21; refine hS1.mono ?_; rintro e w3 ⟨rfl, hb3⟩)
    go_ret
    exact ⟨rfl, below_and hB le hb3⟩
  rw [← he] at k1
  have hS1 := sameE_eq w2 ve ue _ (h1.mv mov_ent hB.size (Mv.below hB)) (k1.mv mov_ent hB.size (Mv.below hB))
  by_cases hls : a.2.2.1 = b.2.2.1
  rotate_left
  · have HS2 := (show Hid (∀ u, Below w.heap.size w u → Calls Try.prog 22 #[vl, ul] u fun e w' => e = .returned (.bool false) ∧ Below u.heap.size u w') from fun u hu => sameS_ne u vl ul _ _ (h2.mv mov_lea hu.size (Mv.below hu)) (k2.mv mov_lea hu.size (Mv.below hu)) hls)
    clear h1 h2 h3 k1 k2 k3 hne hs he hls
    go_enter Try.func9, Try.ntmps9
    go_upto_region 1 with fail
    rw [← hw2]
    clear hw2
    go_wp2_with (first
      | (go_at_call 21; refine hS1.mono ?_; rintro e w3 ⟨rfl, hb3⟩; have B3 := below_and hB le hb3; have c2 := (ra.below hb3).cell (j := 2) rfl; have d2 := (rb.below hb3).cell (j := 2) rfl)
      | (go_at_call 22; refine (HS2.out w3 B3).mono ?_; rintro e w4 ⟨rfl, hb4⟩))
    go_ret
    exact ⟨rfl, below_and B3 le hb4⟩
  rw [← hls] at k2
  have HS2 := (show Hid (∀ u, Below w.heap.size w u → Calls Try.prog 22 #[vl, ul] u fun e w' => e = .returned (.bool true) ∧ Below u.heap.size u w') from fun u hu => sameS_eq u vl ul _ (h2.mv mov_lea hu.size (Mv.below hu)) (k2.mv mov_lea hu.size (Mv.below hu)))
  have hss : ¬ a.2.2.2 = b.2.2.2 := fun e => hne (Prod.ext hs (Prod.ext he (Prod.ext hls e)))
  by_cases hl : a.2.2.2.length = b.2.2.2.length
  rotate_left
  · have hd : ((a.2.2.2.length : Int) != (b.2.2.2.length : Int)) = true := by simp; omega
    have hd2 : (a.2.2.2.length != b.2.2.2.length) = true := by simp; omega
    clear h1 h2 h3 k1 k2 k3 hne hs he hls hss
    generalize a.2.2.2.length = N at *
    generalize b.2.2.2.length = M at *
    go_enter Try.func9, Try.ntmps9
    go_upto_region 1 with fail
    rw [← hw2]
    clear hw2
    go_wp2_with (first
      | (go_at_call 21; refine hS1.mono ?_; rintro e w3 ⟨rfl, hb3⟩; have B3 := below_and hB le hb3; have c2 := (ra.below hb3).cell (j := 2) rfl; have d2 := (rb.below hb3).cell (j := 2) rfl)
      | (go_at_call 22; refine (HS2.out w3 B3).mono ?_; rintro e w4 ⟨rfl, hb4⟩; have c3 := ((ra.below hb3).below hb4).cell (j := 3) rfl; have d3 := ((rb.below hb3).below hb4).cell (j := 3) rfl))
    go_ret
    exact ⟨rfl, below_and B3 le hb4⟩
  generalize a.2.2.2 = ys at *
  generalize b.2.2.2 = zs at *
  obtain ⟨d, y, z, hy, hz, hyz, heq⟩ := first_ne hl hss
  have hdl := (List.getElem?_eq_some_iff.1 hy).1
  rw [← hl] at rb k3 hw2 ⊢
  obtain ⟨N, hN⟩ : ∃ N, N = ys.length := ⟨_, rfl⟩
  have hn2 : ((N : Int) != N) = false := by simp
  have hl' : 0 < ys.length := by omega
  obtain ⟨bb, off, cap, e, hc, hm, _, hbb, hx⟩ := h3.at hl'
  injection e with e1 e2 e3
  obtain ⟨bk, ofk, capk, e', hck, hmk, _, hbk, hxk⟩ := k3.at (by omega)
  injection e' with e1' e2' e3'
  subst e1 e3 e1' e3'
  have hlm : (N : Int) ≤ 9223372036854775807 := by unfold maxLen at hm; omega
  have HX := (show Hid (∀ (i : Nat) (a : PEnt), ys[i]? = some a → ∃ r, r.length = 4 ∧ w.rangeAt bb (off + i * 4) r ∧ RSes Any w r a) from hx)
  have HY := (show Hid (∀ (i : Nat) (a : PEnt), zs[i]? = some a → ∃ r, r.length = 4 ∧ w.rangeAt bk (ofk + i * 4) r ∧ RSes Any w r a) from hxk)
  have HEQ := (show Hid (∀ i, i < d → ys[i]? = zs[i]?) from heq)
  have HYZ := (show Hid (ys[d]? = some y ∧ zs[d]? = some z ∧ y ≠ z) from ⟨hy, hz, hyz⟩)
  have HN := (show Hid (ys.length = N) from hN.symm)
  rw [← hN] at ra rb hw2 hdl ⊢
  clear h1 h2 h3 k1 k2 k3 hN hx hxk e2 e2' hl' hm hmk hc hck hy hz hyz heq hl hss hne hs he hls hcs hcu c0 c1 d0 d1
  have c0 := ra.cell (j := 0) rfl
  have c1 := ra.cell (j := 1) rfl
  have d0 := rb.cell (j := 0) rfl
  have d1 := rb.cell (j := 1) rfl
  go_enter Try.func9, Try.ntmps9
  go_upto_region 1 with fail
  rw [← hw2]
  clear hw2
  go_upto_region 3 with (first
    | (go_at_call 21; refine hS1.mono ?_; rintro e w3 ⟨rfl, hb3⟩; have B3 := below_and hB le hb3; have c2 := (ra.below hb3).cell (j := 2) rfl; have d2 := (rb.below hb3).cell (j := 2) rfl)
    | (go_at_call 22; refine (HS2.out w3 B3).mono ?_; rintro e w4 ⟨rfl, hb4⟩; have c3 := ((ra.below hb3).below hb4).cell (j := 3) rfl; have d3 := ((rb.below hb3).below hb4).cell (j := 3) rfl))
  have b24 := below_and hb3 (Nat.le_refl _) hb4
  have B4 := below_and hB le b24
  have ra4 := ra.below b24
  have rb4 := rb.below b24
  clear c0 c1 d0 d1 c2 d2 hS1 HS2 hb3 hb4 B3 ra rb hB hn1
  go_wp2_with fail
  go_loopw [40] (fun i wr => ∃ q : Nat, q ≤ d ∧ i = .int .i64 q ∧ Below w4.heap.size w4 wr) (fun i _ => N - (intOf i).toNat)
  case atStart => exact ⟨0, by omega, rfl, Below.refl _ _⟩
  case round =>
    clear c3 d3
    obtain ⟨q, hq, rfl, hBr⟩ := hrel
    have Br := below_and B4 le hBr
    have hqi : (q : Int) < (N : Int) := by omega
    by_cases hqd : q < d
    · obtain ⟨x, hx⟩ : ∃ x, ys[q]? = some x := ⟨_, List.getElem?_eq_getElem (by have := HN.out; omega)⟩
      have hx2 := (HEQ.out q hqd).symm.trans hx
      obtain ⟨r, _, hrng, c1, d1, k1, s1, l1, rfl, t1, t2⟩ := HX.out q x hx
      obtain ⟨r', _, hrng', c2, d2, k2, s1', l2, rfl, t1', t2'⟩ := HY.out q x hx2
      rw [t2] at t2'
      injection t2' with e1 e2
      injection e1 with e1 _
      injection e2 with e2 e3
      injection e3 with e3 e4
      subst e1 e2 e3 e4
      have hrng := rangeAt_block hrng (Br.block bb hbb)
      have HRK := (show Hid (∀ u, Below w4.heap.size w4 u → w.heap.size ≤ w.heap.size → u.rangeAt bk (ofk + q * 4) [.int .i64 c1, .int .i64 d1, .int .i64 k1, s1']) from fun u hu _ => rangeAt_block hrng' ((below_and B4 le hu).block bk hbk))
      obtain ⟨a1, cp1, rfl, hc1⟩ := t1.form
      obtain ⟨a2, cp2, rfl, hc2⟩ := t1'.form
      have hrow0 := Row.new wr 49 [.int .i64 0, .int .i64 0, .int .i64 0, .slice none 0 0]
      have hone := onN4 (c := c1) (d := d1) (k := k1) t1.one
      have hd1 : (c1 != c1) = false := by simp
      have hd2 : (d1 != d1) = false := by simp
      clear hx hx2 t2
      have HSR := (show Hid (∀ u, Below w4.heap.size w4 u → Calls Try.prog 23 #[.agg #[.int .i64 k1, .slice a1 l1.length cp1], .agg #[.int .i64 k1, .slice a2 l1.length cp2]] u fun e w' => e = .returned (.bool true) ∧ Below u.heap.size u w' ∧ Below w4.heap.size w4 w') from fun u hu => (sameR_eq u k1 _ _ l1 (t1.mv (Mv.below (below_and B4 le hu))).1 (t1'.mv (Mv.below (below_and B4 le hu))).1).mono fun e w' ⟨e1, e2⟩ => ⟨e1, e2, below_and hu (Nat.le_refl _) e2⟩)
      clear t1 t1' hrng'
      go_upto_region 6 with (first
        | (refine wpList_load_mid rfl _ _ rfl bb (off + q * 4) rfl [.int .i64 c1, .int .i64 d1, .int .i64 k1, .slice a1 l1.length cp1] _ hrng Try.underlying49 rfl (by kernel_rfl) ?_)
        | (refine wl_store rfl _ _ _ rfl wr.heap.size [.int .i64 c1, .int .i64 d1, .int .i64 k1, .slice a1 l1.length cp1] rfl rfl _ _ hrow0 rfl (by kernel_rfl) hone ?_; intro w5 hr5 hg5))
      have hr5 := hr5.out
      have hb5 : Below wr.heap.size wr w5 := (below_alloc wr (.cells ([.int .i64 0, .int .i64 0, .int .i64 0, .slice none 0 0] : List Value).toArray 49)).trans (grown_below hg5 (by simp) (fun k hk => by cases hk; exact Nat.le_refl _))
      have B45 := below_and hBr (Nat.le_refl _) hb5
      obtain ⟨gb, hgb⟩ : ∃ gb, gb = wr.heap.size := ⟨_, rfl⟩
      rw [← hgb] at hr5 ⊢
      have SK := (show Hid (∀ u, Below w5.heap.size w5 u → u.cell? ⟨gb, 0, none⟩ = some (.int .i64 c1) ∧ u.cell? ⟨gb, 1, none⟩ = some (.int .i64 d1) ∧ u.cell? ⟨gb, 2, none⟩ = some (.int .i64 k1) ∧ u.cell? ⟨gb, 3, none⟩ = some (.slice a1 l1.length cp1) ∧ u.cell? ⟨w.heap.size + 1, 3, none⟩ = some (.slice (some ⟨bk, ofk, none⟩) N cu) ∧ u.cell? ⟨bk, ofk + q * 4, none⟩ = some (.int .i64 c1) ∧ u.cell? ⟨bk, ofk + q * 4 + 1, none⟩ = some (.int .i64 d1) ∧ u.cell? ⟨bk, ofk + q * 4 + 2, none⟩ = some (.int .i64 k1) ∧ u.cell? ⟨bk, ofk + q * 4 + 3, none⟩ = some (.slice a2 l1.length cp2)) from fun u hu => ⟨(hr5.below hu).cell (j := 0) rfl, (hr5.below hu).cell (j := 1) rfl, (hr5.below hu).cell (j := 2) rfl, (hr5.below hu).cell (j := 3) rfl, ((rb4.below B45).below hu).cell (j := 3) rfl, HRK.out u (below_and B45 (Nat.le_refl _) hu) le 0 _ rfl, HRK.out u (below_and B45 (Nat.le_refl _) hu) le 1 _ rfl, HRK.out u (below_and B45 (Nat.le_refl _) hu) le 2 _ rfl, HRK.out u (below_and B45 (Nat.le_refl _) hu) le 3 _ rfl⟩)
      have HSR2 := (show Hid (∀ u, Below w5.heap.size w5 u → Calls Try.prog 23 #[.agg #[.int .i64 k1, .slice a1 l1.length cp1], .agg #[.int .i64 k1, .slice a2 l1.length cp2]] u fun e w' => e = .returned (.bool true) ∧ Below u.heap.size u w' ∧ Below w5.heap.size w5 w') from fun u hu => (HSR.out u (below_and B45 (Nat.le_refl _) hu)).mono fun e w' ⟨e1, e2, e3⟩ => ⟨e1, e2, below_and hu (Nat.le_refl _) e2⟩)
      clear HSR
      obtain ⟨m0, m1, m2, m3, m4, m5, m6, m7, m8⟩ := SK.out w5 (Below.refl _ _)
      have hdw : Below w5.heap.size w5 w5.drew := ⟨rfl, rfl, rfl, Nat.le_refl _, fun _ _ => rfl⟩
      clear HRK hrng hone hrow0 hg5 hgb
      generalize l1.length = L1 at *
      go_region_held3 (fun u => u.cell? ⟨gb, 0, none⟩ = some (.int .i64 c1) ∧ u.cell? ⟨gb, 1, none⟩ = some (.int .i64 d1) ∧ u.cell? ⟨gb, 2, none⟩ = some (.int .i64 k1) ∧ u.cell? ⟨gb, 3, none⟩ = some (.slice a1 L1 cp1) ∧ u.cell? ⟨w.heap.size + 1, 3, none⟩ = some (.slice (some ⟨bk, ofk, none⟩) N cu) ∧ u.cell? ⟨bk, ofk + q * 4, none⟩ = some (.int .i64 c1) ∧ u.cell? ⟨bk, ofk + q * 4 + 1, none⟩ = some (.int .i64 d1) ∧ u.cell? ⟨bk, ofk + q * 4 + 2, none⟩ = some (.int .i64 k1) ∧ u.cell? ⟨bk, ofk + q * 4 + 3, none⟩ = some (.slice a2 L1 cp2))
        (first | (with_reducible exact SK.out w8 hB8) | (with_reducible exact SK.out _ hdw) | go_keep)
        (first | (go_at_call 23; refine (HSR2.out _ (by first | assumption | exact Below.refl _ _)).mono ?_; rintro e w8 ⟨rfl, hb8, hB8⟩))
      go_wp2_with fail
      go_roundw
      case rel => exact ⟨q + 1, by omega, by go_num, below_and B45 (Nat.le_refl _) hB8⟩
      case measure => simp [intOf]; omega
    · obtain rfl : q = d := by omega
      obtain ⟨hy, hz, hyz⟩ := HYZ.out
      obtain ⟨r, _, hrng, c1, d1, k1, s1, l1, rfl, t1, t2⟩ := HX.out q y hy
      obtain ⟨r', _, hrng', c2, d2, k2, s1', l2, rfl, t1', t2'⟩ := HY.out q z hz
      by_cases hcc : c1 = c2
      · by_cases hdd : d1 = d2
        · have hres : ¬ (k1 = k2 ∧ l1 = l2) := fun hh => hyz (by rw [t2, t2', hcc, hdd, hh.1, hh.2])
          have hd1 : (c1 != c2) = false := by simp [hcc]
          have hd2 : (d1 != d2) = false := by simp [hdd]
          have hrng := rangeAt_block hrng (Br.block bb hbb)
          have HRK := (show Hid (∀ u, Below w4.heap.size w4 u → w.heap.size ≤ w.heap.size → u.rangeAt bk (ofk + q * 4) [.int .i64 c2, .int .i64 d2, .int .i64 k2, s1']) from fun u hu _ => rangeAt_block hrng' ((below_and B4 le hu).block bk hbk))
          obtain ⟨a1, cp1, rfl, hc1⟩ := t1.form
          obtain ⟨a2, cp2, rfl, hc2⟩ := t1'.form
          have hrow0 := Row.new wr 49 [.int .i64 0, .int .i64 0, .int .i64 0, .slice none 0 0]
          have hone := onN4 (c := c1) (d := d1) (k := k1) t1.one
          clear hy hz hyz t2 t2' hcc hdd
          have HSR := (show Hid (∀ u, Below w4.heap.size w4 u → Calls Try.prog 23 #[.agg #[.int .i64 k1, .slice a1 l1.length cp1], .agg #[.int .i64 k2, .slice a2 l2.length cp2]] u fun e w' => e = .returned (.bool false) ∧ Below u.heap.size u w' ∧ Below w4.heap.size w4 w') from fun u hu => (sameR_ne u k1 k2 _ _ l1 l2 (t1.mv (Mv.below (below_and B4 le hu))).1 (t1'.mv (Mv.below (below_and B4 le hu))).1 hres).mono fun e w' ⟨e1, e2⟩ => ⟨e1, e2, below_and hu (Nat.le_refl _) e2⟩)
          clear t1 t1' hrng'
          go_upto_region 6 with (first
            | (refine wpList_load_mid rfl _ _ rfl bb (off + q * 4) rfl [.int .i64 c1, .int .i64 d1, .int .i64 k1, .slice a1 l1.length cp1] _ hrng Try.underlying49 rfl (by kernel_rfl) ?_)
            | (refine wl_store rfl _ _ _ rfl wr.heap.size [.int .i64 c1, .int .i64 d1, .int .i64 k1, .slice a1 l1.length cp1] rfl rfl _ _ hrow0 rfl (by kernel_rfl) hone ?_; intro w5 hr5 hg5))
          have hr5 := hr5.out
          have hb5 : Below wr.heap.size wr w5 := (below_alloc wr (.cells ([.int .i64 0, .int .i64 0, .int .i64 0, .slice none 0 0] : List Value).toArray 49)).trans (grown_below hg5 (by simp) (fun k hk => by cases hk; exact Nat.le_refl _))
          have B45 := below_and hBr (Nat.le_refl _) hb5
          obtain ⟨gb, hgb⟩ : ∃ gb, gb = wr.heap.size := ⟨_, rfl⟩
          rw [← hgb] at hr5 ⊢
          have SK := (show Hid (∀ u, Below w5.heap.size w5 u → u.cell? ⟨gb, 0, none⟩ = some (.int .i64 c1) ∧ u.cell? ⟨gb, 1, none⟩ = some (.int .i64 d1) ∧ u.cell? ⟨gb, 2, none⟩ = some (.int .i64 k1) ∧ u.cell? ⟨gb, 3, none⟩ = some (.slice a1 l1.length cp1) ∧ u.cell? ⟨w.heap.size + 1, 3, none⟩ = some (.slice (some ⟨bk, ofk, none⟩) N cu) ∧ u.cell? ⟨bk, ofk + q * 4, none⟩ = some (.int .i64 c2) ∧ u.cell? ⟨bk, ofk + q * 4 + 1, none⟩ = some (.int .i64 d2) ∧ u.cell? ⟨bk, ofk + q * 4 + 2, none⟩ = some (.int .i64 k2) ∧ u.cell? ⟨bk, ofk + q * 4 + 3, none⟩ = some (.slice a2 l2.length cp2)) from fun u hu => ⟨(hr5.below hu).cell (j := 0) rfl, (hr5.below hu).cell (j := 1) rfl, (hr5.below hu).cell (j := 2) rfl, (hr5.below hu).cell (j := 3) rfl, ((rb4.below B45).below hu).cell (j := 3) rfl, HRK.out u (below_and B45 (Nat.le_refl _) hu) le 0 _ rfl, HRK.out u (below_and B45 (Nat.le_refl _) hu) le 1 _ rfl, HRK.out u (below_and B45 (Nat.le_refl _) hu) le 2 _ rfl, HRK.out u (below_and B45 (Nat.le_refl _) hu) le 3 _ rfl⟩)
          have HSR2 := (show Hid (∀ u, Below w5.heap.size w5 u → Calls Try.prog 23 #[.agg #[.int .i64 k1, .slice a1 l1.length cp1], .agg #[.int .i64 k2, .slice a2 l2.length cp2]] u fun e w' => e = .returned (.bool false) ∧ Below u.heap.size u w' ∧ Below w5.heap.size w5 w') from fun u hu => (HSR.out u (below_and B45 (Nat.le_refl _) hu)).mono fun e w' ⟨e1, e2, e3⟩ => ⟨e1, e2, below_and hu (Nat.le_refl _) e2⟩)
          clear HSR
          obtain ⟨m0, m1, m2, m3, m4, m5, m6, m7, m8⟩ := SK.out w5 (Below.refl _ _)
          have hdw : Below w5.heap.size w5 w5.drew := ⟨rfl, rfl, rfl, Nat.le_refl _, fun _ _ => rfl⟩
          clear HRK hrng hone hrow0 hg5 hgb
          generalize l1.length = L1 at *
          generalize l2.length = L2 at *
          go_region_held3 (fun u => u.cell? ⟨gb, 0, none⟩ = some (.int .i64 c1) ∧ u.cell? ⟨gb, 1, none⟩ = some (.int .i64 d1) ∧ u.cell? ⟨gb, 2, none⟩ = some (.int .i64 k1) ∧ u.cell? ⟨gb, 3, none⟩ = some (.slice a1 L1 cp1) ∧ u.cell? ⟨w.heap.size + 1, 3, none⟩ = some (.slice (some ⟨bk, ofk, none⟩) N cu) ∧ u.cell? ⟨bk, ofk + q * 4, none⟩ = some (.int .i64 c2) ∧ u.cell? ⟨bk, ofk + q * 4 + 1, none⟩ = some (.int .i64 d2) ∧ u.cell? ⟨bk, ofk + q * 4 + 2, none⟩ = some (.int .i64 k2) ∧ u.cell? ⟨bk, ofk + q * 4 + 3, none⟩ = some (.slice a2 L2 cp2))
            (first | (with_reducible exact SK.out w8 hB8) | (with_reducible exact SK.out _ hdw) | go_keep)
            (first | (go_at_call 23; refine (HSR2.out _ (by first | assumption | exact Below.refl _ _)).mono ?_; rintro e w8 ⟨rfl, hb8, hB8⟩))
          go_wp2_with fail
          go_ret
          exact ⟨rfl, below_and B4 le (below_and B45 (Nat.le_refl _) hB8)⟩
        · have hd1 : (c1 != c2) = false := by simp [hcc]
          have hd2 : (d1 != d2) = true := by simp [hdd]
          have hrng := rangeAt_block hrng (Br.block bb hbb)
          have HRK := (show Hid (∀ u, Below w4.heap.size w4 u → w.heap.size ≤ w.heap.size → u.rangeAt bk (ofk + q * 4) [.int .i64 c2, .int .i64 d2, .int .i64 k2, s1']) from fun u hu _ => rangeAt_block hrng' ((below_and B4 le hu).block bk hbk))
          obtain ⟨a1, cp1, rfl, hc1⟩ := t1.form
          obtain ⟨a2, cp2, rfl, hc2⟩ := t1'.form
          have hrow0 := Row.new wr 49 [.int .i64 0, .int .i64 0, .int .i64 0, .slice none 0 0]
          have hone := onN4 (c := c1) (d := d1) (k := k1) t1.one
          clear hy hz hyz t2 t2' hcc
          clear t1 t1' hrng'
          go_upto_region 6 with (first
            | (refine wpList_load_mid rfl _ _ rfl bb (off + q * 4) rfl [.int .i64 c1, .int .i64 d1, .int .i64 k1, .slice a1 l1.length cp1] _ hrng Try.underlying49 rfl (by kernel_rfl) ?_)
            | (refine wl_store rfl _ _ _ rfl wr.heap.size [.int .i64 c1, .int .i64 d1, .int .i64 k1, .slice a1 l1.length cp1] rfl rfl _ _ hrow0 rfl (by kernel_rfl) hone ?_; intro w5 hr5 hg5))
          have hr5 := hr5.out
          have hb5 : Below wr.heap.size wr w5 := (below_alloc wr (.cells ([.int .i64 0, .int .i64 0, .int .i64 0, .slice none 0 0] : List Value).toArray 49)).trans (grown_below hg5 (by simp) (fun k hk => by cases hk; exact Nat.le_refl _))
          have B45 := below_and hBr (Nat.le_refl _) hb5
          obtain ⟨gb, hgb⟩ : ∃ gb, gb = wr.heap.size := ⟨_, rfl⟩
          rw [← hgb] at hr5 ⊢
          have SK := (show Hid (∀ u, Below w5.heap.size w5 u → u.cell? ⟨gb, 0, none⟩ = some (.int .i64 c1) ∧ u.cell? ⟨gb, 1, none⟩ = some (.int .i64 d1) ∧ u.cell? ⟨gb, 2, none⟩ = some (.int .i64 k1) ∧ u.cell? ⟨gb, 3, none⟩ = some (.slice a1 l1.length cp1) ∧ u.cell? ⟨w.heap.size + 1, 3, none⟩ = some (.slice (some ⟨bk, ofk, none⟩) N cu) ∧ u.cell? ⟨bk, ofk + q * 4, none⟩ = some (.int .i64 c2) ∧ u.cell? ⟨bk, ofk + q * 4 + 1, none⟩ = some (.int .i64 d2) ∧ u.cell? ⟨bk, ofk + q * 4 + 2, none⟩ = some (.int .i64 k2) ∧ u.cell? ⟨bk, ofk + q * 4 + 3, none⟩ = some (.slice a2 l2.length cp2)) from fun u hu => ⟨(hr5.below hu).cell (j := 0) rfl, (hr5.below hu).cell (j := 1) rfl, (hr5.below hu).cell (j := 2) rfl, (hr5.below hu).cell (j := 3) rfl, ((rb4.below B45).below hu).cell (j := 3) rfl, HRK.out u (below_and B45 (Nat.le_refl _) hu) le 0 _ rfl, HRK.out u (below_and B45 (Nat.le_refl _) hu) le 1 _ rfl, HRK.out u (below_and B45 (Nat.le_refl _) hu) le 2 _ rfl, HRK.out u (below_and B45 (Nat.le_refl _) hu) le 3 _ rfl⟩)
          obtain ⟨m0, m1, m2, m3, m4, m5, m6, m7, m8⟩ := SK.out w5 (Below.refl _ _)
          have hdw : Below w5.heap.size w5 w5.drew := ⟨rfl, rfl, rfl, Nat.le_refl _, fun _ _ => rfl⟩
          clear HRK hrng hone hrow0 hg5 hgb
          generalize l1.length = L1 at *
          generalize l2.length = L2 at *
          try go_simp
          go_big_quiet (fail)
          go_wp2_with fail
          go_ret
          exact ⟨rfl, below_and B4 le (by first | exact bel_dnE B45 _ | exact B45.drew | exact B45)⟩
      · have hd1 : (c1 != c2) = true := by simp [hcc]
        have hrng := rangeAt_block hrng (Br.block bb hbb)
        have HRK := (show Hid (∀ u, Below w4.heap.size w4 u → w.heap.size ≤ w.heap.size → u.rangeAt bk (ofk + q * 4) [.int .i64 c2, .int .i64 d2, .int .i64 k2, s1']) from fun u hu _ => rangeAt_block hrng' ((below_and B4 le hu).block bk hbk))
        obtain ⟨a1, cp1, rfl, hc1⟩ := t1.form
        obtain ⟨a2, cp2, rfl, hc2⟩ := t1'.form
        have hrow0 := Row.new wr 49 [.int .i64 0, .int .i64 0, .int .i64 0, .slice none 0 0]
        have hone := onN4 (c := c1) (d := d1) (k := k1) t1.one
        clear hy hz hyz t2 t2'
        clear t1 t1' hrng'
        go_upto_region 6 with (first
          | (refine wpList_load_mid rfl _ _ rfl bb (off + q * 4) rfl [.int .i64 c1, .int .i64 d1, .int .i64 k1, .slice a1 l1.length cp1] _ hrng Try.underlying49 rfl (by kernel_rfl) ?_)
          | (refine wl_store rfl _ _ _ rfl wr.heap.size [.int .i64 c1, .int .i64 d1, .int .i64 k1, .slice a1 l1.length cp1] rfl rfl _ _ hrow0 rfl (by kernel_rfl) hone ?_; intro w5 hr5 hg5))
        have hr5 := hr5.out
        have hb5 : Below wr.heap.size wr w5 := (below_alloc wr (.cells ([.int .i64 0, .int .i64 0, .int .i64 0, .slice none 0 0] : List Value).toArray 49)).trans (grown_below hg5 (by simp) (fun k hk => by cases hk; exact Nat.le_refl _))
        have B45 := below_and hBr (Nat.le_refl _) hb5
        obtain ⟨gb, hgb⟩ : ∃ gb, gb = wr.heap.size := ⟨_, rfl⟩
        rw [← hgb] at hr5 ⊢
        have SK := (show Hid (∀ u, Below w5.heap.size w5 u → u.cell? ⟨gb, 0, none⟩ = some (.int .i64 c1) ∧ u.cell? ⟨gb, 1, none⟩ = some (.int .i64 d1) ∧ u.cell? ⟨gb, 2, none⟩ = some (.int .i64 k1) ∧ u.cell? ⟨gb, 3, none⟩ = some (.slice a1 l1.length cp1) ∧ u.cell? ⟨w.heap.size + 1, 3, none⟩ = some (.slice (some ⟨bk, ofk, none⟩) N cu) ∧ u.cell? ⟨bk, ofk + q * 4, none⟩ = some (.int .i64 c2) ∧ u.cell? ⟨bk, ofk + q * 4 + 1, none⟩ = some (.int .i64 d2) ∧ u.cell? ⟨bk, ofk + q * 4 + 2, none⟩ = some (.int .i64 k2) ∧ u.cell? ⟨bk, ofk + q * 4 + 3, none⟩ = some (.slice a2 l2.length cp2)) from fun u hu => ⟨(hr5.below hu).cell (j := 0) rfl, (hr5.below hu).cell (j := 1) rfl, (hr5.below hu).cell (j := 2) rfl, (hr5.below hu).cell (j := 3) rfl, ((rb4.below B45).below hu).cell (j := 3) rfl, HRK.out u (below_and B45 (Nat.le_refl _) hu) le 0 _ rfl, HRK.out u (below_and B45 (Nat.le_refl _) hu) le 1 _ rfl, HRK.out u (below_and B45 (Nat.le_refl _) hu) le 2 _ rfl, HRK.out u (below_and B45 (Nat.le_refl _) hu) le 3 _ rfl⟩)
        obtain ⟨m0, m1, m2, m3, m4, m5, m6, m7, m8⟩ := SK.out w5 (Below.refl _ _)
        have hdw : Below w5.heap.size w5 w5.drew := ⟨rfl, rfl, rfl, Nat.le_refl _, fun _ _ => rfl⟩
        clear HRK hrng hone hrow0 hg5 hgb
        generalize l1.length = L1 at *
        generalize l2.length = L2 at *
        try go_simp
        go_big_quiet (fail)
        go_wp2_with fail
        go_ret
        exact ⟨rfl, below_and B4 le (by first | exact bel_dnE B45 _ | exact B45.drew | exact B45)⟩
end Go.Proofs.Ytejkkhlblnepeab
end

section
set_option linter.unusedVariables false
set_option linter.unusedSimpArgs false
namespace Go.Proofs.Ytejkkhlblnepeab
open Go.RowKit Oct Kvl

set_option maxRecDepth 10000 in
set_option maxHeartbeats 8000000 in
theorem unlikeN_any (w : World) (r0 : List Value) (a : PApp) (r1 : List Value) (b : PApp) (h0 : RApp Any w r0 a) (h1 : RApp Any w r1 b) (z0 : szA a) (z1 : szA b) :
    Calls Try.prog 3 #[.agg r0.toArray, .agg r1.toArray] w fun e w' => e = .returned (.bool true) ∧ Below w.heap.size w w' := by
  have le := Nat.le_refl w.heap.size
  have hbya := snB_byt h0
  have hbyb := snB_byt h1
  have hwa := h0.wfA
  have hwb := h1.wfA
  have HA := (show Hid (∀ u, Below w.heap.size w u → RApp Any u r0 a) from fun u hu => h0.below hu)
  have HB := (show Hid (∀ u, Below w.heap.size w u → RApp Any u r1 b) from fun u hu => h1.below hu)
  obtain ⟨ae, ce, al, cl, an, cn, hr0⟩ := formsU h0
  obtain ⟨be, fe, bl, fl, bn, fn, hr1⟩ := formsU h1
  subst hr0 hr1
  obtain ⟨w0, hw0⟩ : ∃ w0, w0 = (w.alloc (.cells #[.int .i64 a.1, .slice ae a.2.1.length ce, .slice al a.2.2.1.length cl, .slice an a.2.2.2.length cn] 26)).alloc (.cells #[.int .i64 b.1, .slice be b.2.1.length fe, .slice bl b.2.2.1.length fl, .slice bn b.2.2.2.length fn] 26) := ⟨_, rfl⟩
  have xa : Row w0 w.heap.size 26 [.int .i64 a.1, .slice ae a.2.1.length ce, .slice al a.2.2.1.length cl, .slice an a.2.2.2.length cn] := by rw [hw0]; exact rowA (Row.new w 26 _) _
  have xb : Row w0 (w.heap.size + 1) 26 [.int .i64 b.1, .slice be b.2.1.length fe, .slice bl b.2.2.1.length fl, .slice bn b.2.2.2.length fn] := by
    rw [hw0]
    have := Row.new (w.alloc (.cells #[.int .i64 a.1, .slice ae a.2.1.length ce, .slice al a.2.2.1.length cl, .slice an a.2.2.2.length cn] 26)) 26 [.int .i64 b.1, .slice be b.2.1.length fe, .slice bl b.2.2.1.length fl, .slice bn b.2.2.2.length fn]
    simpa using this
  have B0 : Below w.heap.size w w0 := by rw [hw0]; exact below_and (below_alloc _ _) le (below_alloc _ _)
  have hAl := snapAlive_any w0
  clear h0 h1
  go_enter Try.func3, Try.ntmps3
  go_upto_region 1 with fail
  rw [← hw0]
  clear hw0
  go_upto_region 3 with (go_at_call 4; refine hAl.mono ?_; rintro e w1 ⟨rfl, hb1⟩)
  have xa := xa.below hb1
  have xb := xb.below hb1
  have B1 := below_and B0 le hb1
  have hC := refCopyA_any w1 _ a (HA.out w1 B1) z0
  clear hAl hb1 B0
  go_upto_region 4 with (first
    | (refine wl_load rfl _ _ rfl w.heap.size rfl _ _ xa _ Try.underlying26 rfl (by kernel_rfl) ?_)
    | (go_at_call 6; refine hC.mono ?_; rintro e w2 ⟨r2, rfl, hr2, hb2⟩; have hE := snapEncode_any w2 r2 a (mov_app _ _ _ _ _ _ hr2 (Nat.le_refl _) Mv.any))
    | (go_at_call 5; refine hE.mono ?_; rintro e w3 ⟨v3, rfl, ho3, hf3, hb3⟩))
  have hb13 := below_and hb2 (Nat.le_refl _) hb3
  have B3 := below_and B1 le hb13
  have xa := xa.below hb13
  have xb := xb.below hb13
  have hC := refCopyA_any w3 _ b (HB.out w3 B3) z1
  clear hr2 hE hb2 hb3 hb13 B1
  go_upto_region 5 with (first
    | (refine wl_load rfl _ _ rfl (w.heap.size + 1) rfl _ _ xb _ Try.underlying26 rfl (by kernel_rfl) ?_)
    | (go_at_call 6; refine hC.mono ?_; rintro e w4 ⟨r4, rfl, hr4, hb4⟩; have hE := snapEncode_any w4 r4 b (mov_app _ _ _ _ _ _ hr4 (Nat.le_refl _) Mv.any))
    | (go_at_call 5; refine hE.mono ?_; rintro e w5 ⟨v5, rfl, ho5, hf5, hb5⟩))
  have hb35 := below_and hb4 (Nat.le_refl _) hb5
  have B5 := below_and B3 le hb35
  have xa := xa.below hb35
  have xb := xb.below hb35
  have d3 := (ho3.rd hbya).below hb35
  have d5 := ho5.rd hbyb
  have hRa := rightA_any w5 _ a (HA.out w5 B5)
  have HRb := (show Hid (∀ u, Below w.heap.size w u → Calls Try.prog 7 #[.agg #[.int .i64 b.1, .slice be b.2.1.length fe, .slice bl b.2.2.1.length fl, .slice bn b.2.2.2.length fn]] u fun e w' => e = .returned (.bool (decide (rgtA b))) ∧ Below u.heap.size u w') from fun u hu => rightA_any u _ b (HB.out u hu))
  clear hr4 hE hb4 hb5 hb35 B3 ho3 ho5 hf3 hf5 hC
  by_cases ga : rgtA a
  · by_cases gb : rgtA b
    · rw [show snE a = 0 from if_pos ga, show snE b = 0 from if_pos gb]
      rw [show snB a = wrA a from if_pos ga] at d3
      rw [show snB b = wrA b from if_pos gb] at d5
      clear hRa HRb
      have hd1 : ∃ t : Bool, decide (wrA a = wrA b) = t ∧ ∀ u, Below w.heap.size w u → Calls Try.prog 9 #[.agg #[.int .i64 a.1, .slice ae a.2.1.length ce, .slice al a.2.2.1.length cl, .slice an a.2.2.2.length cn], .agg #[.int .i64 b.1, .slice be b.2.1.length fe, .slice bl b.2.2.1.length fl, .slice bn b.2.2.2.length fn]] u fun e w' => e = .returned (.bool t) ∧ Below u.heap.size u w' := by
        by_cases hab : a = b
        · subst hab
          exact ⟨true, decide_eq_true rfl, fun u hu => sameA_eq u _ _ a (HA.out u hu) (HB.out u hu)⟩
        · exact ⟨false, decide_eq_false (fun e => hab (wrA_inj hwa ga hwb gb e)), fun u hu => sameA_ne u _ _ a b (HA.out u hu) (HB.out u hu) hab⟩
      obtain ⟨t, ht, hT⟩ := hd1
      have HT := (show Hid (∀ u, Below w5.heap.size w5 u → Calls Try.prog 9 #[.agg #[.int .i64 a.1, .slice ae a.2.1.length ce, .slice al a.2.2.1.length cl, .slice an a.2.2.2.length cn], .agg #[.int .i64 b.1, .slice be b.2.1.length fe, .slice bl b.2.2.1.length fl, .slice bn b.2.2.2.length fn]] u fun e w' => e = .returned (.bool t) ∧ Below w5.heap.size w5 w') from fun u hu => (hT u (below_and B5 le hu)).mono fun e w' ⟨e1, e2⟩ => ⟨e1, below_and hu (Nat.le_refl _) e2⟩)
      have HS := (show Hid (∀ u, Below w5.heap.size w5 u → Calls Try.prog 8 #[v3, v5] u fun e w' => e = .returned (.bool t) ∧ Below w5.heap.size w5 w') from fun u hu => by
        have := same_any u v3 v5 _ _ (d3.below hu) (d5.below hu)
        rw [ht] at this
        exact this.mono fun e w' ⟨e1, e2⟩ => ⟨e1, by rw [e2]; exact hu⟩)
      have SK := (show Hid (∀ u, Below w5.heap.size w5 u → u.cell? ⟨w.heap.size, 0, none⟩ = some (.int .i64 a.1) ∧ u.cell? ⟨w.heap.size, 1, none⟩ = some (.slice ae a.2.1.length ce) ∧ u.cell? ⟨w.heap.size, 2, none⟩ = some (.slice al a.2.2.1.length cl) ∧ u.cell? ⟨w.heap.size, 3, none⟩ = some (.slice an a.2.2.2.length cn) ∧ u.cell? ⟨w.heap.size + 1, 0, none⟩ = some (.int .i64 b.1) ∧ u.cell? ⟨w.heap.size + 1, 1, none⟩ = some (.slice be b.2.1.length fe) ∧ u.cell? ⟨w.heap.size + 1, 2, none⟩ = some (.slice bl b.2.2.1.length fl) ∧ u.cell? ⟨w.heap.size + 1, 3, none⟩ = some (.slice bn b.2.2.2.length fn)) from fun u hu => ⟨(xa.below hu).cell (j := 0) rfl, (xa.below hu).cell (j := 1) rfl, (xa.below hu).cell (j := 2) rfl, (xa.below hu).cell (j := 3) rfl, (xb.below hu).cell (j := 0) rfl, (xb.below hu).cell (j := 1) rfl, (xb.below hu).cell (j := 2) rfl, (xb.below hu).cell (j := 3) rfl⟩)
      have hdw : Below w5.heap.size w5 w5.drew := ⟨rfl, rfl, rfl, Nat.le_refl _, fun _ _ => rfl⟩
      have htt : (t == t) = true := by cases t <;> rfl
      clear ga gb hT d3 d5 hbya hbyb hwa hwb ht z0 z1 xa xb
      go_wp2_with fail
      go_region_held3 (fun u => u.cell? ⟨w.heap.size, 0, none⟩ = some (.int .i64 a.1) ∧ u.cell? ⟨w.heap.size, 1, none⟩ = some (.slice ae a.2.1.length ce) ∧ u.cell? ⟨w.heap.size, 2, none⟩ = some (.slice al a.2.2.1.length cl) ∧ u.cell? ⟨w.heap.size, 3, none⟩ = some (.slice an a.2.2.2.length cn) ∧ u.cell? ⟨w.heap.size + 1, 0, none⟩ = some (.int .i64 b.1) ∧ u.cell? ⟨w.heap.size + 1, 1, none⟩ = some (.slice be b.2.1.length fe) ∧ u.cell? ⟨w.heap.size + 1, 2, none⟩ = some (.slice bl b.2.2.1.length fl) ∧ u.cell? ⟨w.heap.size + 1, 3, none⟩ = some (.slice bn b.2.2.2.length fn))
        (first | (with_reducible exact SK.out w7 hB7) | (with_reducible exact SK.out w6 hB6) | (with_reducible exact SK.out w5 (Below.refl _ _)) | (with_reducible exact SK.out w5.drew hdw) | go_keep)
        (first
          | (go_at_call 8; refine (HS.out _ (by first | (with_reducible exact Below.refl _ _) | (with_reducible exact hdw))).mono ?_; rintro e w6 ⟨rfl, hB6⟩)
          | (go_at_call 9; refine (HT.out _ (by first | (with_reducible exact hB6) | (with_reducible exact hB6.drew))).mono ?_; rintro e w7 ⟨rfl, hB7⟩))
      all_goals (
        go_wp2_with fail
        go_ret
        exact ⟨rfl, below_and B5 le hB7⟩)
    · rw [show snE a = 0 from if_pos ga, show snE b = 101 from if_neg gb]
      rw [decide_eq_true ga] at hRa
      have HRb := (show Hid (∀ u, Below w.heap.size w u → Calls Try.prog 7 #[.agg #[.int .i64 b.1, .slice be b.2.1.length fe, .slice bl b.2.2.1.length fl, .slice bn b.2.2.2.length fn]] u fun e w' => e = .returned (.bool false) ∧ Below u.heap.size u w') by
        have := HRb.out
        rw [decide_eq_false gb] at this
        exact this)
      clear ga gb d3 d5
      go_wp2_with (first
        | (go_at_call_has 7 (Value.agg #[.int .i64 a.1, .slice ae a.2.1.length ce, .slice al a.2.2.1.length cl, .slice an a.2.2.2.length cn]); refine hRa.mono ?_; rintro e w6 ⟨rfl, hb6⟩; have B6 := below_and B5 le hb6; have xb6 := xb.below hb6)
        | (go_at_call_has 7 (Value.agg #[.int .i64 b.1, .slice be b.2.1.length fe, .slice bl b.2.2.1.length fl, .slice bn b.2.2.2.length fn]); refine (HRb.out w6 B6).mono ?_; rintro e w7 ⟨rfl, hb7⟩)
        | (refine wl_load rfl _ _ rfl w.heap.size rfl _ _ xa _ Try.underlying26 rfl (by kernel_rfl) ?_)
        | (refine wl_load_w (by rfl) _ _ rfl (w.heap.size + 1) rfl _ _ xb6 _ Try.underlying26 rfl (by kernel_rfl) ?_))
      go_ret
      exact ⟨rfl, below_and B6 le hb7⟩
  · rw [show snE a = 101 from if_neg ga]
    rw [decide_eq_false ga] at hRa
    by_cases gb : rgtA b
    · rw [show snE b = 0 from if_pos gb]
      have HRb := (show Hid (∀ u, Below w.heap.size w u → Calls Try.prog 7 #[.agg #[.int .i64 b.1, .slice be b.2.1.length fe, .slice bl b.2.2.1.length fl, .slice bn b.2.2.2.length fn]] u fun e w' => e = .returned (.bool true) ∧ Below u.heap.size u w') by
        have := HRb.out
        rw [decide_eq_true gb] at this
        exact this)
      clear ga gb d3 d5
      go_wp2_with (first
        | (go_at_call_has 7 (Value.agg #[.int .i64 a.1, .slice ae a.2.1.length ce, .slice al a.2.2.1.length cl, .slice an a.2.2.2.length cn]); refine hRa.mono ?_; rintro e w6 ⟨rfl, hb6⟩; have B6 := below_and B5 le hb6; have xb6 := xb.below hb6)
        | (go_at_call_has 7 (Value.agg #[.int .i64 b.1, .slice be b.2.1.length fe, .slice bl b.2.2.1.length fl, .slice bn b.2.2.2.length fn]); refine (HRb.out w6 B6).mono ?_; rintro e w7 ⟨rfl, hb7⟩)
        | (refine wl_load rfl _ _ rfl w.heap.size rfl _ _ xa _ Try.underlying26 rfl (by kernel_rfl) ?_)
        | (refine wl_load_w (by rfl) _ _ rfl (w.heap.size + 1) rfl _ _ xb6 _ Try.underlying26 rfl (by kernel_rfl) ?_))
      go_ret
      exact ⟨rfl, below_and B6 le hb7⟩
    · rw [show snE b = 101 from if_neg gb]
      have HRb := (show Hid (∀ u, Below w.heap.size w u → Calls Try.prog 7 #[.agg #[.int .i64 b.1, .slice be b.2.1.length fe, .slice bl b.2.2.1.length fl, .slice bn b.2.2.2.length fn]] u fun e w' => e = .returned (.bool false) ∧ Below u.heap.size u w') by
        have := HRb.out
        rw [decide_eq_false gb] at this
        exact this)
      clear ga gb d3 d5
      go_wp2_with (first
        | (go_at_call_has 7 (Value.agg #[.int .i64 a.1, .slice ae a.2.1.length ce, .slice al a.2.2.1.length cl, .slice an a.2.2.2.length cn]); refine hRa.mono ?_; rintro e w6 ⟨rfl, hb6⟩; have B6 := below_and B5 le hb6; have xb6 := xb.below hb6)
        | (go_at_call_has 7 (Value.agg #[.int .i64 b.1, .slice be b.2.1.length fe, .slice bl b.2.2.1.length fl, .slice bn b.2.2.2.length fn]); refine (HRb.out w6 B6).mono ?_; rintro e w7 ⟨rfl, hb7⟩)
        | (refine wl_load rfl _ _ rfl w.heap.size rfl _ _ xa _ Try.underlying26 rfl (by kernel_rfl) ?_)
        | (refine wl_load_w (by rfl) _ _ rfl (w.heap.size + 1) rfl _ _ xb6 _ Try.underlying26 rfl (by kernel_rfl) ?_))
      go_ret
      exact ⟨rfl, below_and B6 le hb7⟩
end Go.Proofs.Ytejkkhlblnepeab
end
