/- windowAlive, WindowNames. -/
import Derived.Test.YtjloehkolnjnhaaXRAX
set_option linter.unusedSimpArgs false
set_option linter.unusedVariables false
namespace Go.Proofs.Ytjloehkolnjnhaa
open Go.RowKit Oct Kvl Bal
def q1 : PReq := (1, 0, [], [])
def kA : List (Int × PSl) := [(3, { s0 with hv := true, voted := (1, 0), vote := q0 })]
def kB : List (Int × PSl) := [(3, { s0 with hv := true, voted := (2, 0), vote := q1 })]
theorem al1 : stV (bndW 0) [] (1, 0) 3 q0 = (kA, 0) := by kernel_rfl
theorem al2 : stV (bndW 0) kA (1, 0) 3 q1 = (kA, 171) := by kernel_rfl
theorem al3 : stV (bndW 0) kA (2, 0) 3 q1 = (kB, 0) := by kernel_rfl
theorem al4 : atL kB 3 = { s0 with hv := true, voted := (2, 0), vote := q1 } := by kernel_rfl
theorem fld33 (c0 c1 c2 c3 c4 c5 c6 c7 c8 c9 c10 c11 c12 c13 c14 c15 c16 c17 c18 c19 c20 c21 c22 : Value) (w : World) : (Instr.field 33 (.agg #[c0, c1, c2, c3, c4, c5, c6, c7, c8, c9, c10, c11, c12, c13, c14, c15, c16, c17, c18, c19, c20, c21, c22]) 0).run Try.prog w = .ok (.agg #[c0, c1]) w := by kernel_rfl
theorem fld27 (a b : Value) (w : World) : (Instr.field 27 (.agg #[a, b]) 0).run Try.prog w = .ok a w := by kernel_rfl
theorem rq0 (w : World) : RReq Any w [.int .i64 0, .int .i64 0, .slice none 0 0, .slice none 0 0] q0 := ⟨_, _, rfl, RT.nil _ _, RT.nil _ _⟩
theorem rq1 (w : World) : RReq Any w [.int .i64 1, .int .i64 0, .slice none 0 0, .slice none 0 0] q1 := ⟨_, _, rfl, RT.nil _ _, RT.nil _ _⟩
set_option maxRecDepth 10000 in
set_option maxHeartbeats 4000000 in
theorem windowAlive_any (w : World) : Calls Try.prog 6 #[] w fun e w' => e = .returned (.bool true) ∧ Below w.heap.size w w' := by
  go_enter Try.func6, Try.ntmps6
  go_upto_region 4 with (go_at_call 7; refine (newW_any w 0).mono ?_; rintro e w1 ⟨rfl, h1, B1⟩)
  have hV := voteW_any w1 h1 (Gd.nbs h1.lt.1 h1.lt.2) (1, 0) 3 _ q0 (rq0 w1) szQ_0
  rw [al1] at hV
  have hs1 := h1.lt
  go_upto_region 5 with (go_at_call 24; refine hV.mono ?_; rintro e w2 ⟨rfl, h2, g2⟩)
  have hV2 := voteW_any w2 h2 (Gd.nbs h2.lt.1 h2.lt.2) (1, 0) 3 _ q1 (rq1 w2) ⟨Nat.zero_le _, Nat.zero_le _⟩
  rw [al2] at hV2
  go_upto_region 6 with (go_at_call 24; refine hV2.mono ?_; rintro e w3 ⟨rfl, h3, g3⟩)
  have hV3 := voteW_any w3 h3 (Gd.nbs h3.lt.1 h3.lt.2) (2, 0) 3 _ q1 (rq1 w3) ⟨Nat.zero_le _, Nat.zero_le _⟩
  rw [al3] at hV3
  go_upto_region 7 with (go_at_call 24; refine hV3.mono ?_; rintro e w4 ⟨rfl, h4, g4⟩)
  have hA := atW_any w4 h4 3
  rw [al4] at hA
  have B2 : Below w.heap.size w w2 := B1.trans (grown_below g2 B1.size (fun k hk => by cases hk; exact Nat.le_refl _))
  have B3 : Below w.heap.size w w3 := B2.trans (grown_below g3 B2.size (fun k hk => by cases hk; exact Nat.le_refl _))
  have B4 : Below w.heap.size w w4 := B3.trans (grown_below g4 B3.size (fun k hk => by cases hk; exact Nat.le_refl _))
  clear hV hV2 hV3 h1 h2 h3 g2 g3 g4 B1 B2 B3 hs1
  have HI := (show Hid (∀ u k, Below w4.heap.size w4 u → Calls Try.prog 14 #[.pointer (some ⟨w.heap.size + 1, 0, none⟩), .int .i64 k] u fun e w' => e = .returned (.bool (inW (bndW 0) k)) ∧ w' = u) from fun u k hu => inW_any u (h4.below hu) k)
  have HB := (show Hid (Below w.heap.size w w4) from B4)
  clear h4 B4
  have hf1 := fld33
  have hf2 := fld27
  have i16 : inW (bndW 0) 16 = true := by kernel_rfl
  have i17 : inW (bndW 0) 17 = false := by kernel_rfl
  go_wp2_with (first
    | (go_at_call 12; refine hA.mono ?_; rintro e w5 ⟨r5, rfl, ⟨o1, g1, o2, g2, c1, o3, g3, v1, rfl, _⟩, b5⟩)
    | (go_at_call 14; refine (HI.out w5 _ b5).mono ?_; rintro e w5 ⟨rfl, rfl⟩; first | rw [i16] | rw [i17]))
  go_ret
  exact ⟨rfl, below_and HB.out (Nat.le_refl _) b5⟩
end Go.Proofs.Ytjloehkolnjnhaa
