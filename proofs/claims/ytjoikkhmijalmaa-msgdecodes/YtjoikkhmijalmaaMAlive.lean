/- catenarylaw05.msgAlive, MsgNames. -/
import Derived.Test.YtjoikkhmijalmaaD8
set_option linter.unusedVariables false
namespace Go.Proofs.Ytjoikkhmijalmaa
open Go.RowKit Oct

def m11 : PMsg := { zeroM with kind := 11, slot := 4, frm := 2 }
theorem bad11 : badM m11 = false := by decide
theorem by11 : byM m11 = [11, 4, 2] := by decide
theorem encE11 : encE m11 = 0 := by
  unfold encE
  rw [if_neg (by rw [bad11]; decide), if_neg (by rw [by11]; decide)]
theorem encB11 : encB m11 = [11, 4, 2] := by unfold encB; rw [if_pos encE11, by11]
theorem dec11 : decE [11, 4, 2] = 0 ∧ decM [11, 4, 2] = m11 := decE_ok (by decide) (by have := rdM_fwd bad11; rw [by11] at this; exact this)
theorem byt11 : Byt [11, 4, 2] := by intro x hx; simp at hx; omega
theorem sok11 (w : World) : SOk Any w m11 sv0 :=
  ⟨RT.nil _ _, RT.nil _ _, RT.nil _ _, RT.nil _ _, RT.nil _ _, RT.nil _ _, RL.nil _ _ _ _, RL.nil _ _ _ _, RL.nil _ _ _ _, RL.nil _ _ _ _, RL.nil _ _ _ _⟩
theorem rd_three (w : World) : Rd (w.alloc (.cells #[.int .u8 11, .int .u8 4, .int .u8 2] 5)) (.slice (some ⟨w.heap.size, 0, none⟩) 3 3) [11, 4, 2] :=
  ⟨byt11, Own.rdv (e := 5) (World.ownsRow_lit (base := 0) (size := 1) w #[.int .u8 11, .int .u8 4, .int .u8 2] 3 (Nat.zero_le _) (by decide) rfl)⟩

set_option maxRecDepth 10000 in
set_option maxHeartbeats 1000000 in
theorem alive_any (w : World) : Calls Try.prog 4 #[] w fun e w' => e = .returned (.bool true) ∧ Below w.heap.size w w' := by
  have hE := encode_any w m11 sv0 (sok11 w)
  go_enter Try.func4, Try.ntmps4
  go_wp2_with fail
  refine hE.mono ?_
  rintro e w1 ⟨v1, rfl, hown1, hbyt1, hfr1, hb1⟩
  rw [encB11] at hown1 hbyt1
  rw [encE11]
  clear hE hfr1
  go_wp2_with fail
  have hD := decode_any (w1.alloc (.cells #[.int .u8 11, .int .u8 4, .int .u8 2] 5)) _ [11, 4, 2] ⟨rd_three w1, fun _ _ _ => trivial⟩
  refine hD.mono ?_
  rintro e w2 ⟨s2, rfl, hs2, hb2⟩
  rw [dec11.2] at hs2
  rw [dec11.1, dec11.2]
  clear hD
  have hB2 : Below w.heap.size w w2 := below_and (below_and hb1 (Nat.le_refl _) (below_alloc w1 _)) (Nat.le_refl _) hb2
  have ho2 := (hown1.below (below_alloc w1 (.cells #[.int .u8 11, .int .u8 4, .int .u8 2] 5))).below hb2
  have hrow0 := Row.new w2 33 (mc zeroM sv0)
  have hone := hs2.one
  clear hown1 hb1 hb2 hs2
  go_wp2_with (first
    | (refine wl_store rfl _ _ _ rfl w2.heap.size (mc m11 s2) rfl rfl _ _ hrow0 rfl (by kernel_rfl) hone ?_; intro w3 hr3 hg3))
  have hb3 : Below w2.heap.size w2 w3 := (below_alloc w2 (.cells (mc zeroM sv0).toArray 33)).trans (grown_below hg3 (by simp) (fun k hk => by cases hk; exact Nat.le_refl _))
  have hr4 := row_alloc hr3.out (.cells #[.int .u8 11, .int .u8 4, .int .u8 2] 5)
  have hb4 := below_alloc w3 (.cells #[.int .u8 11, .int .u8 4, .int .u8 2] 5)
  have hsame := same_any (w3.alloc (.cells #[.int .u8 11, .int .u8 4, .int .u8 2] 5)) v1 _ [11, 4, 2] [11, 4, 2] (((ho2.below hb3).below hb4).rd byt11) (rd_three w3)
  rw [decide_eq_true rfl] at hsame
  have hB4 := below_and (below_and hB2 (Nat.le_refl _) hb3) (Nat.le_refl _) hb4
  clear hg3 hr3 hrow0 hb3 hb4 ho2
  generalize w3.alloc (.cells #[.int .u8 11, .int .u8 4, .int .u8 2] 5) = w4 at hsame hr4 hB4 ⊢
  have c0 : w4.cell? ⟨w2.heap.size, 0, none⟩ = some (.int .i64 11) := hr4.cell (j := 0) rfl
  have c1 : w4.cell? ⟨w2.heap.size, 3, none⟩ = some (.int .i64 4) := hr4.cell (j := 3) rfl
  have c2 : w4.cell? ⟨w2.heap.size, 4, none⟩ = some (.int .i64 2) := hr4.cell (j := 4) rfl
  refine hsame.mono ?_
  rintro e w5 ⟨rfl, rfl⟩
  clear hsame
  go_wp2_with fail
  go_ret
  exact ⟨rfl, hB4⟩

end Go.Proofs.Ytjoikkhmijalmaa
