/- catenarylaw04.BallotNumbers: its walk. -/
import Derived.Test.YtcajelodbfpkfaaBAlive
namespace Go.Proofs.Ytcajelodbfpkfaa
open Go.RowKit Oct Bal

set_option maxHeartbeats 1000000 in
theorem numbers_any (w : World) (n a b c d : Int) : Calls Try.prog 4 #[.int .i64 n, bal a b, bal c d] w fun e w' => e = .returned (.bool true) ∧ Below w.heap.size w w' := by
  have le := Nat.le_refl w.heap.size
  go_enter Try.func4, Try.ntmps4
  go_wp2_with fail
  refine (alive_any _).mono ?_
  rintro e w1 ⟨rfl, hb1⟩
  have B0 : Below w.heap.size w ((w.alloc (.cells #[.int .i64 a, .int .i64 b] 26)).alloc (.cells #[.int .i64 c, .int .i64 d] 26)) := below_and (below_alloc _ _) le (below_alloc _ _)
  have B1 := below_and B0 le hb1
  have r0 : Row w1 w.heap.size 26 [.int .i64 a, .int .i64 b] := ((Row.new w 26 [.int .i64 a, .int .i64 b]).below (below_alloc _ (.cells #[.int .i64 c, .int .i64 d] 26))).below hb1
  have r1 : Row w1 (w.heap.size + 1) 26 [.int .i64 c, .int .i64 d] := by
    have := (Row.new (w.alloc (.cells #[.int .i64 a, .int .i64 b] 26)) 26 [.int .i64 c, .int .i64 d]).below hb1
    simpa using this
  clear hb1 B0
  generalize w.heap.size + 1 = N1 at *
  obtain ⟨N0, hN0⟩ : ∃ N0, N0 = w.heap.size := ⟨_, rfl⟩
  rw [← hN0] at r0 ⊢
  clear hN0
  have SK := (show Hid (∀ u, Below w1.heap.size w1 u → u.cell? ⟨N0, 0, none⟩ = some (.int .i64 a) ∧ u.cell? ⟨N0, 1, none⟩ = some (.int .i64 b) ∧ u.cell? ⟨N1, 0, none⟩ = some (.int .i64 c) ∧ u.cell? ⟨N1, 1, none⟩ = some (.int .i64 d)) from fun u hu =>
    ⟨(r0.below hu).cell rfl, (r0.below hu).cell rfl, (r1.below hu).cell rfl, (r1.below hu).cell rfl⟩)
  obtain ⟨c0, c1, c2, c3⟩ := SK.out w1 (Below.refl _ _)
  clear r0 r1
  have hdr : Below w1.heap.size w1 w1.drew := ⟨rfl, rfl, rfl, Nat.le_refl _, fun _ _ => rfl⟩
  have HBA := (show Hid (cmp2 c d a b = - cmp2 a b c d) from cmp2_neg a b c d)
  have hbd := cmp2_bd a b c d
  have hw : IntKind.i64.wrap (-cmp2 a b c d) = -cmp2 a b c d := by rw [IntKind.wrap_i64]; omega
  have hng : (-cmp2 a b c d == -cmp2 a b c d) = true := by simp
  have hcc : (cmp2 a b c d == cmp2 a b c d) = true := by simp
  have hhh : (hed a n == hed a n) = true := by simp
  have t1 : (rgt n == rgt n) = true := by simp
  have t2 : (fau n == fau n) = true := by simp
  have t3 : (quo n == quo n) = true := by simp
  have t4 : (wea n == wea n) = true := by simp
  go_wp2_with (first
    | (go_at_call 10; refine (right_any _ _).mono ?_; rintro e w1 ⟨rfl, rfl⟩)
    | (go_at_call 11; refine (refRight_any _ _).mono ?_; rintro e w1 ⟨rfl, rfl⟩)
    | (go_at_call 12; refine (faults_any _ _).mono ?_; rintro e w1 ⟨rfl, rfl⟩)
    | (go_at_call 13; refine (refFaults_any _ _).mono ?_; rintro e w1 ⟨rfl, rfl⟩)
    | (go_at_call 14; refine (quorum_any _ _).mono ?_; rintro e w1 ⟨rfl, rfl⟩)
    | (go_at_call 15; refine (refQuorum_any _ _).mono ?_; rintro e w1 ⟨rfl, rfl⟩)
    | (go_at_call 16; refine (weak_any _ _).mono ?_; rintro e w1 ⟨rfl, rfl⟩)
    | (go_at_call 17; refine (refWeak_any _ _).mono ?_; rintro e w1 ⟨rfl, rfl⟩))
  go_region_held3 (fun u => u.cell? ⟨N0, 0, none⟩ = some (.int .i64 a) ∧ u.cell? ⟨N0, 1, none⟩ = some (.int .i64 b) ∧ u.cell? ⟨N1, 0, none⟩ = some (.int .i64 c) ∧ u.cell? ⟨N1, 1, none⟩ = some (.int .i64 d))
    (first | exact SK.out _ (by assumption) | go_keep)
    (first
      | (go_at_call 18; refine (compare_at w1 _ (by assumption) _ _ _ _).mono ?_; rintro e w2 ⟨rfl, hb2⟩; try rw [HBA.out])
      | (go_at_call 19; refine (refCompare_at w1 _ (by assumption) _ _ _ _).mono ?_; rintro e w2 ⟨rfl, hb2⟩)
      | (go_at_call 20; refine (head_at w1 _ (by assumption) _ _ _).mono ?_; rintro e w2 ⟨rfl, hb2⟩)
      | (go_at_call 21; refine (refHead_at w1 _ (by assumption) _ _ _).mono ?_; rintro e w2 ⟨rfl, hb2⟩))
  go_wp2_with fail
  go_ret
  exact ⟨rfl, below_and B1 le hb2⟩
end Go.Proofs.Ytcajelodbfpkfaa
