/- catenarylaw04.ballotAlive. -/
import Derived.Test.YtcajelodbfpkfabB9
namespace Go.Proofs.Ytcajelodbfpkfab
open Go.RowKit Oct Bal

theorem sh_e : shE [0, 1, 2, 3, 4, 5, 6] 2 3 = 0 := by decide
theorem sh_l : shL [0, 1, 2, 3, 4, 5, 6] 2 3 = [0, 1, 4, 5, 2, 6, 3] := by decide
theorem quo_7 : quo 7 = 5 := by decide
theorem rdi_lit (w : World) (l : List Int) (e : TypeId) (h : l.length ≤ maxLen) : Rdi (w.alloc (.cells (ic l).toArray e)) (.slice (some ⟨w.heap.size, 0, none⟩) l.length l.length) l := by
  have ho := own_row (Row.new w e (ic l)) l.length (by rw [ic_len]; exact Nat.le_refl _) (by rw [ic_len]; exact h)
  rw [List.take_of_length_le (by rw [ic_len]; exact Nat.le_refl _), ic_len] at ho
  exact ho.rdi
theorem rdi_a (w : World) : Rdi (w.alloc (.cells #[.int .i64 0, .int .i64 1, .int .i64 2, .int .i64 3, .int .i64 4, .int .i64 5, .int .i64 6] 3)) (.slice (some ⟨w.heap.size, 0, none⟩) 7 7) [0, 1, 2, 3, 4, 5, 6] := rdi_lit w [0, 1, 2, 3, 4, 5, 6] 3 (by decide)
theorem rdi_b (w : World) : Rdi (w.alloc (.cells #[.int .i64 0, .int .i64 1, .int .i64 4, .int .i64 5, .int .i64 2, .int .i64 6, .int .i64 3] 3)) (.slice (some ⟨w.heap.size, 0, none⟩) 7 7) [0, 1, 4, 5, 2, 6, 3] := rdi_lit w [0, 1, 4, 5, 2, 6, 3] 3 (by decide)

set_option maxHeartbeats 1000000 in
theorem alive_any (w : World) : Calls Try.prog 5 #[] w fun e w' => e = .returned (.bool true) ∧ Below w.heap.size w w' := by
  have le := Nat.le_refl w.heap.size
  have hS := shift_any (w.alloc (.cells #[.int .i64 0, .int .i64 1, .int .i64 2, .int .i64 3, .int .i64 4, .int .i64 5, .int .i64 6] 3)) _ _ 2 3 (rdi_a w)
  rw [sh_e, sh_l] at hS
  have HS := (show Hid (∀ _ : Unit, _) from fun _ => hS)
  clear hS
  go_enter Try.func5, Try.ntmps5
  go_wp2_with fail
  refine (HS.out ()).mono ?_
  rintro e w1 ⟨s, rfl, ho, hf, hb⟩
  have B1 : Below w.heap.size w w1 := below_and (below_alloc w _) le hb
  have r1 := ho.rdi
  clear HS ho hf hb
  have hE := same_any (w1.alloc (.cells #[.int .i64 0, .int .i64 1, .int .i64 4, .int .i64 5, .int .i64 2, .int .i64 6, .int .i64 3] 3)) _ _ _ _ (r1.below (below_alloc w1 _)) (rdi_b w1)
  rw [decide_eq_true rfl] at hE
  have HE := (show Hid (∀ _ : Unit, _) from fun _ => hE)
  clear hE
  go_wp2_with fail
  refine (HE.out ()).mono ?_
  rintro e w2 ⟨rfl, hb2⟩
  have B2 : Below w.heap.size w w2 := below_and (below_and B1 le (below_alloc w1 _)) le hb2
  clear HE hb2
  go_wp2_with (go_at_call 7; refine (quorum_any _ _).mono ?_; rintro e w ⟨rfl, rfl⟩; rw [quo_7])
  go_ret
  exact ⟨rfl, B2⟩
end Go.Proofs.Ytcajelodbfpkfab
