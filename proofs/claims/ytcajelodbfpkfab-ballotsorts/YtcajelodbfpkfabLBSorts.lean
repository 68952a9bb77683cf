/- catenarylaw04.BallotSorts: its walk. -/
import Derived.Test.YtcajelodbfpkfabBAlive
namespace Go.Proofs.Ytcajelodbfpkfab
open Go.RowKit Oct Bal

theorem cmp_at (w1 u : World) (hu : Below w1.heap.size w1 u) (a b c d : Int) : Calls Try.prog 10 #[bal a b, bal c d] u fun e w' => e = .returned (.int .i64 (cmp2 a b c d)) ∧ Below w1.heap.size w1 w' :=
  (compare_any u a b c d).mono fun _ _ ⟨h1, h2⟩ => ⟨h1, below_and hu (Nat.le_refl _) h2⟩

set_option maxHeartbeats 1000000 in
theorem sorts_any (w : World) (a b c d e f : Int) : Calls Try.prog 4 #[bal a b, bal c d, bal e f] w fun e w' => e = .returned (.bool true) ∧ Below w.heap.size w w' := by
  have le := Nat.le_refl w.heap.size
  go_enter Try.func4, Try.ntmps4
  go_wp2_with fail
  refine (alive_any _).mono ?_
  rintro e' w1 ⟨rfl, hb1⟩
  have B0 : Below w.heap.size w (((w.alloc (.cells #[.int .i64 a, .int .i64 b] 32)).alloc (.cells #[.int .i64 c, .int .i64 d] 32)).alloc (.cells #[.int .i64 e, .int .i64 f] 32)) := below_and (below_and (below_alloc _ _) le (below_alloc _ _)) le (below_alloc _ _)
  have B1 := below_and B0 le hb1
  have r0 : Row w1 w.heap.size 32 [.int .i64 a, .int .i64 b] := (((Row.new w 32 [.int .i64 a, .int .i64 b]).below (below_alloc _ (.cells #[.int .i64 c, .int .i64 d] 32))).below (below_alloc _ (.cells #[.int .i64 e, .int .i64 f] 32))).below hb1
  have r1 : Row w1 (w.heap.size + 1) 32 [.int .i64 c, .int .i64 d] := by
    have := ((Row.new (w.alloc (.cells #[.int .i64 a, .int .i64 b] 32)) 32 [.int .i64 c, .int .i64 d]).below (below_alloc _ (.cells #[.int .i64 e, .int .i64 f] 32))).below hb1
    simpa using this
  have r2 : Row w1 (w.heap.size + 1 + 1) 32 [.int .i64 e, .int .i64 f] := by
    have := (Row.new ((w.alloc (.cells #[.int .i64 a, .int .i64 b] 32)).alloc (.cells #[.int .i64 c, .int .i64 d] 32)) 32 [.int .i64 e, .int .i64 f]).below hb1
    simpa using this
  clear hb1 B0
  generalize w.heap.size + 1 + 1 = N2 at *
  generalize w.heap.size + 1 = N1 at *
  obtain ⟨N0, hN0⟩ : ∃ N0, N0 = w.heap.size := ⟨_, rfl⟩
  rw [← hN0] at r0 ⊢
  clear hN0
  have SK := (show Hid (∀ u, Below w1.heap.size w1 u → u.cell? ⟨N0, 0, none⟩ = some (.int .i64 a) ∧ u.cell? ⟨N0, 1, none⟩ = some (.int .i64 b) ∧ u.cell? ⟨N1, 0, none⟩ = some (.int .i64 c) ∧ u.cell? ⟨N1, 1, none⟩ = some (.int .i64 d) ∧ u.cell? ⟨N2, 0, none⟩ = some (.int .i64 e) ∧ u.cell? ⟨N2, 1, none⟩ = some (.int .i64 f)) from fun u hu =>
    ⟨(r0.below hu).cell rfl, (r0.below hu).cell rfl, (r1.below hu).cell rfl, (r1.below hu).cell rfl, (r2.below hu).cell rfl, (r2.below hu).cell rfl⟩)
  obtain ⟨c0, c1, c2, c3, c4, c5⟩ := SK.out w1 (Below.refl _ _)
  clear r0 r1 r2
  have hdr : Below w1.heap.size w1 w1.drew := ⟨rfl, rfl, rfl, Nat.le_refl _, fun _ _ => rfl⟩
  go_wp2_with fail
  go_region_held3 (fun u => u.cell? ⟨N0, 0, none⟩ = some (.int .i64 a) ∧ u.cell? ⟨N0, 1, none⟩ = some (.int .i64 b) ∧ u.cell? ⟨N1, 0, none⟩ = some (.int .i64 c) ∧ u.cell? ⟨N1, 1, none⟩ = some (.int .i64 d) ∧ u.cell? ⟨N2, 0, none⟩ = some (.int .i64 e) ∧ u.cell? ⟨N2, 1, none⟩ = some (.int .i64 f))
    (first | exact SK.out _ (by assumption) | go_keep)
    (first
      | (go_at_call 10; refine (cmp_at w1 _ (by assumption) _ _ _ _).mono ?_; rintro e' w2 ⟨rfl, hb2⟩))
  clear c0 c1 c2 c3 c4 c5
  obtain ⟨c0, c1, c2, c3, c4, c5⟩ := SK.out w2 hb2
  have HZ := (show Hid (cmp2 a b a b = 0) from cmp2_self a b)
  have HN := (show Hid (cmp2 c d a b = - cmp2 a b c d) from cmp2_neg a b c d)
  have HX := (show Hid (cmp2 a b c d = 0 ↔ a = c ∧ b = d) from cmp2_zero a b c d)
  have HT := (show Hid (cmp2 a b c d ≤ 0 → cmp2 c d e f ≤ 0 → cmp2 a b e f ≤ 0 ∧ (cmp2 a b e f = 0 ↔ cmp2 a b c d = 0 ∧ cmp2 c d e f = 0)) from cmp2_trans a b c d e f)
  have hXb := cmp2_bd a b c d
  generalize cmp2 a b c d = X at *
  generalize cmp2 c d e f = Y at *
  generalize cmp2 a b e f = Z at *
  rcases (show X = -1 ∨ X = 0 ∨ X = 1 by omega) with rfl | rfl | rfl
  · have hne : ¬ (a = c ∧ b = d) := fun h => absurd (HX.out.2 h) (by decide)
    clear HX
    by_cases hac : a = c
    · have hbd : ¬ (b = d) := fun h => hne ⟨hac, h⟩
      have e1 : (a == c) = true := by rw [beq_iff_eq]; exact hac
      have e2 : (b == d) = false := by rw [beq_eq_false_iff_ne]; exact hbd
      clear hne hac hbd
      rcases (show Y ≤ 0 ∨ 0 < Y by omega) with hY | hY
      · have hz := HT.out (by decide) hY
        rcases (show Z = 0 ∨ Z < 0 by omega) with hZ | hZ
        · subst hZ
          have hxy := hz.2.1 rfl
          obtain ⟨hx, rfl⟩ := hxy
          exact absurd hx (by decide)
        · have hZ1 : Z ≤ 0 := by omega
          have hZ2 : (Z == 0) = false := by rw [beq_eq_false_iff_ne]; omega
          have hY2 : ¬ (0 < Y) := by omega
          clear hz hZ HT
          go_wp2_with fail
          refine (cmp_at w1 w2 hb2 a b a b).mono ?_
          rintro e' w3 ⟨rfl, hb3⟩
          rw [HZ.out]
          clear c0 c1 c2 c3 c4 c5
          obtain ⟨c0, c1, c2, c3, c4, c5⟩ := SK.out w3 hb3
          go_wp2_with (go_at_call 10; refine (cmp_at w1 _ hb3 _ _ _ _).mono ?_; rintro e' w4 ⟨rfl, hb4⟩; rw [HN.out])
          go_ret
          exact ⟨rfl, below_and B1 le hb4⟩
      · clear HT
        go_wp2_with fail
        refine (cmp_at w1 w2 hb2 a b a b).mono ?_
        rintro e' w3 ⟨rfl, hb3⟩
        rw [HZ.out]
        clear c0 c1 c2 c3 c4 c5
        obtain ⟨c0, c1, c2, c3, c4, c5⟩ := SK.out w3 hb3
        go_wp2_with (go_at_call 10; refine (cmp_at w1 _ hb3 _ _ _ _).mono ?_; rintro e' w4 ⟨rfl, hb4⟩; rw [HN.out])
        go_ret
        exact ⟨rfl, below_and B1 le hb4⟩
    · have e1 : (a == c) = false := by rw [beq_eq_false_iff_ne]; exact hac
      clear hne hac
      rcases (show Y ≤ 0 ∨ 0 < Y by omega) with hY | hY
      · have hz := HT.out (by decide) hY
        rcases (show Z = 0 ∨ Z < 0 by omega) with hZ | hZ
        · subst hZ
          have hxy := hz.2.1 rfl
          obtain ⟨hx, rfl⟩ := hxy
          exact absurd hx (by decide)
        · have hZ1 : Z ≤ 0 := by omega
          have hZ2 : (Z == 0) = false := by rw [beq_eq_false_iff_ne]; omega
          have hY2 : ¬ (0 < Y) := by omega
          clear hz hZ HT
          go_wp2_with fail
          refine (cmp_at w1 w2 hb2 a b a b).mono ?_
          rintro e' w3 ⟨rfl, hb3⟩
          rw [HZ.out]
          clear c0 c1 c2 c3 c4 c5
          obtain ⟨c0, c1, c2, c3, c4, c5⟩ := SK.out w3 hb3
          go_wp2_with (go_at_call 10; refine (cmp_at w1 _ hb3 _ _ _ _).mono ?_; rintro e' w4 ⟨rfl, hb4⟩; rw [HN.out])
          go_ret
          exact ⟨rfl, below_and B1 le hb4⟩
      · clear HT
        go_wp2_with fail
        refine (cmp_at w1 w2 hb2 a b a b).mono ?_
        rintro e' w3 ⟨rfl, hb3⟩
        rw [HZ.out]
        clear c0 c1 c2 c3 c4 c5
        obtain ⟨c0, c1, c2, c3, c4, c5⟩ := SK.out w3 hb3
        go_wp2_with (go_at_call 10; refine (cmp_at w1 _ hb3 _ _ _ _).mono ?_; rintro e' w4 ⟨rfl, hb4⟩; rw [HN.out])
        go_ret
        exact ⟨rfl, below_and B1 le hb4⟩
  · obtain ⟨hac, hbd⟩ := HX.out.1 rfl
    subst hac hbd
    clear HX
    have e1 : (a == a) = true := by simp
    have e2 : (b == b) = true := by simp
    rcases (show Y ≤ 0 ∨ 0 < Y by omega) with hY | hY
    · have hz := HT.out (by decide) hY
      rcases (show Z = 0 ∨ Z < 0 by omega) with hZ | hZ
      · subst hZ
        have hxy := hz.2.1 rfl
        obtain ⟨hx, rfl⟩ := hxy
        clear hz hx hY HT
        go_wp2_with fail
        refine (cmp_at w1 w2 hb2 a b a b).mono ?_
        rintro e' w3 ⟨rfl, hb3⟩
        rw [HZ.out]
        clear c0 c1 c2 c3 c4 c5
        obtain ⟨c0, c1, c2, c3, c4, c5⟩ := SK.out w3 hb3
        go_wp2_with (go_at_call 10; refine (cmp_at w1 _ hb3 _ _ _ _).mono ?_; rintro e' w4 ⟨rfl, hb4⟩; rw [HN.out])
        go_ret
        exact ⟨rfl, below_and B1 le hb4⟩
      · have hZ1 : Z ≤ 0 := by omega
        have hZ2 : (Z == 0) = false := by rw [beq_eq_false_iff_ne]; omega
        have hY2 : ¬ (0 < Y) := by omega
        have hY3 : (Y == 0) = false := by rw [beq_eq_false_iff_ne]; intro h; have := hz.2.2 ⟨rfl, h⟩; omega
        clear hz hZ HT
        go_wp2_with fail
        refine (cmp_at w1 w2 hb2 a b a b).mono ?_
        rintro e' w3 ⟨rfl, hb3⟩
        rw [HZ.out]
        clear c0 c1 c2 c3 c4 c5
        obtain ⟨c0, c1, c2, c3, c4, c5⟩ := SK.out w3 hb3
        go_wp2_with (go_at_call 10; refine (cmp_at w1 _ hb3 _ _ _ _).mono ?_; rintro e' w4 ⟨rfl, hb4⟩; rw [HN.out])
        go_ret
        exact ⟨rfl, below_and B1 le hb4⟩
    · clear HT
      go_wp2_with fail
      refine (cmp_at w1 w2 hb2 a b a b).mono ?_
      rintro e' w3 ⟨rfl, hb3⟩
      rw [HZ.out]
      clear c0 c1 c2 c3 c4 c5
      obtain ⟨c0, c1, c2, c3, c4, c5⟩ := SK.out w3 hb3
      go_wp2_with (go_at_call 10; refine (cmp_at w1 _ hb3 _ _ _ _).mono ?_; rintro e' w4 ⟨rfl, hb4⟩; rw [HN.out])
      go_ret
      exact ⟨rfl, below_and B1 le hb4⟩
  · have hne : ¬ (a = c ∧ b = d) := fun h => absurd (HX.out.2 h) (by decide)
    clear HX
    by_cases hac : a = c
    · have hbd : ¬ (b = d) := fun h => hne ⟨hac, h⟩
      have e1 : (a == c) = true := by rw [beq_iff_eq]; exact hac
      have e2 : (b == d) = false := by rw [beq_eq_false_iff_ne]; exact hbd
      clear hne hac hbd
      clear HT
      go_wp2_with fail
      refine (cmp_at w1 w2 hb2 a b a b).mono ?_
      rintro e' w3 ⟨rfl, hb3⟩
      rw [HZ.out]
      clear c0 c1 c2 c3 c4 c5
      obtain ⟨c0, c1, c2, c3, c4, c5⟩ := SK.out w3 hb3
      go_wp2_with (go_at_call 10; refine (cmp_at w1 _ hb3 _ _ _ _).mono ?_; rintro e' w4 ⟨rfl, hb4⟩; rw [HN.out])
      go_ret
      exact ⟨rfl, below_and B1 le hb4⟩
    · have e1 : (a == c) = false := by rw [beq_eq_false_iff_ne]; exact hac
      clear hne hac
      clear HT
      go_wp2_with fail
      refine (cmp_at w1 w2 hb2 a b a b).mono ?_
      rintro e' w3 ⟨rfl, hb3⟩
      rw [HZ.out]
      clear c0 c1 c2 c3 c4 c5
      obtain ⟨c0, c1, c2, c3, c4, c5⟩ := SK.out w3 hb3
      go_wp2_with (go_at_call 10; refine (cmp_at w1 _ hb3 _ _ _ _).mono ?_; rintro e' w4 ⟨rfl, hb4⟩; rw [HN.out])
      go_ret
      exact ⟨rfl, below_and B1 le hb4⟩
end Go.Proofs.Ytcajelodbfpkfab
