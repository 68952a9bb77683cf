/- catenarylaw05.msgAlive, MsgNames. -/
import Derived.Test.YtogifpainhepoaaD8
set_option linter.unusedVariables false
namespace Go.Proofs.Ytogifpainhepoaa
open Go.RowKit Oct

def m11 : PMsg := { zeroM with kind := 11, slot := 4, frm := 2 }
theorem bad11 : badM m11 = false := by decide
theorem by11 : byM m11 = [11, 4, 2] := by decide
theorem encE11 : encE m11 = 0 := by
  unfold encE
  rw [if_neg (by rw [bad11]; decide), if_neg (by rw [by11]; decide)]
theorem encB11 : encB m11 = [11, 4, 2] := by unfold encB; rw [if_pos encE11, by11]
theorem dec11 : decE [11, 4, 2] = 0 ∧ decM [11, 4, 2] = m11 := decE_ok (by decide) (by have := rdM_fwd bad11; rw [by11] at this; exact this)
theorem byt11 : Byt [11, 4, 2] := by intro x hx; simp at hx; omega
theorem sok11 (w : World) : SOk Any w m11 sv0 :=
  ⟨RT.nil _ _, RT.nil _ _, RT.nil _ _, RT.nil _ _, RT.nil _ _, RT.nil _ _, RL.nil _ _ _ _, RL.nil _ _ _ _, RL.nil _ _ _ _, RL.nil _ _ _ _, RL.nil _ _ _ _⟩
theorem rd_three (w : World) : Rd (w.alloc (.cells #[.int .u8 11, .int .u8 4, .int .u8 2] 5)) (.slice (some ⟨w.heap.size, 0, none⟩) 3 3) [11, 4, 2] :=
  ⟨byt11, Own.rdv (e := 5) (World.ownsRow_lit (base := 0) (size := 1) w #[.int .u8 11, .int .u8 4, .int .u8 2] 3 (Nat.zero_le _) (by decide) rfl)⟩

set_option maxRecDepth 10000 in
set_option maxHeartbeats 1000000 in
theorem alive_any (w : World) : Calls Try.prog 9 #[] w fun e w' => e = .returned (.bool true) ∧ Below w.heap.size w w' := by
  have hE := encode_any w m11 sv0 (sok11 w)
  go_enter Try.func9, Try.ntmps9
  go_wp2_with fail
  refine hE.mono ?_
  rintro e w1 ⟨v1, rfl, hown1, hbyt1, hfr1, hb1⟩
  rw [encB11] at hown1 hbyt1
  rw [encE11]
  clear hE hfr1
  go_wp2_with fail
  have hD := decode_any (w1.alloc (.cells #[.int .u8 11, .int .u8 4, .int .u8 2] 5)) _ [11, 4, 2] ⟨rd_three w1, fun _ _ _ => trivial⟩
  refine hD.mono ?_
  rintro e w2 ⟨s2, rfl, hs2, hb2⟩
  rw [dec11.2] at hs2
  rw [dec11.1, dec11.2]
  clear hD
  have hB2 : Below w.heap.size w w2 := below_and (below_and hb1 (Nat.le_refl _) (below_alloc w1 _)) (Nat.le_refl _) hb2
  have ho2 := (hown1.below (below_alloc w1 (.cells #[.int .u8 11, .int .u8 4, .int .u8 2] 5))).below hb2
  have hrow0 := Row.new w2 33 (mc zeroM sv0)
  have hone := hs2.one
  clear hown1 hb1 hb2 hs2
  go_wp2_with (first
    | (refine wl_store rfl _ _ _ rfl w2.heap.size (mc m11 s2) rfl rfl _ _ hrow0 rfl (by kernel_rfl) hone ?_; intro w3 hr3 hg3))
  have hb3 : Below w2.heap.size w2 w3 := (below_alloc w2 (.cells (mc zeroM sv0).toArray 33)).trans (grown_below hg3 (by simp) (fun k hk => by cases hk; exact Nat.le_refl _))
  have hr4 := row_alloc hr3.out (.cells #[.int .u8 11, .int .u8 4, .int .u8 2] 5)
  have hb4 := below_alloc w3 (.cells #[.int .u8 11, .int .u8 4, .int .u8 2] 5)
  have hsame := same_any (w3.alloc (.cells #[.int .u8 11, .int .u8 4, .int .u8 2] 5)) v1 _ [11, 4, 2] [11, 4, 2] (((ho2.below hb3).below hb4).rd byt11) (rd_three w3)
  rw [decide_eq_true rfl] at hsame
  have hB4 := below_and (below_and hB2 (Nat.le_refl _) hb3) (Nat.le_refl _) hb4
  clear hg3 hr3 hrow0 hb3 hb4 ho2
  generalize w3.alloc (.cells #[.int .u8 11, .int .u8 4, .int .u8 2] 5) = w4 at hsame hr4 hB4 ⊢
  have c0 : w4.cell? ⟨w2.heap.size, 0, none⟩ = some (.int .i64 11) := hr4.cell (j := 0) rfl
  have c1 : w4.cell? ⟨w2.heap.size, 3, none⟩ = some (.int .i64 4) := hr4.cell (j := 3) rfl
  have c2 : w4.cell? ⟨w2.heap.size, 4, none⟩ = some (.int .i64 2) := hr4.cell (j := 4) rfl
  refine hsame.mono ?_
  rintro e w5 ⟨rfl, rfl⟩
  clear hsame
  go_wp2_with fail
  go_ret
  exact ⟨rfl, hB4⟩

def knd1 : List Int := [1, 2, 3, 4, 5, 6, 7, 8, 9, 10, 11, 12, 13]
def knd2 : List Int := [20, 21, 22, 23, 24, 25]
theorem knd1_at {k : Nat} (h : k < 13) : (knd1.map (Value.int .i64))[k]? = some (.int .i64 ((k : Int) + 1)) := by
  have : k = 0 ∨ k = 1 ∨ k = 2 ∨ k = 3 ∨ k = 4 ∨ k = 5 ∨ k = 6 ∨ k = 7 ∨ k = 8 ∨ k = 9 ∨ k = 10 ∨ k = 11 ∨ k = 12 := by omega
  rcases this with rfl | rfl | rfl | rfl | rfl | rfl | rfl | rfl | rfl | rfl | rfl | rfl | rfl <;> rfl
theorem knd2_at {k : Nat} (h : k < 6) : (knd2.map (Value.int .i64))[k]? = some (.int .i64 ((k : Int) + 20)) := by
  have : k = 0 ∨ k = 1 ∨ k = 2 ∨ k = 3 ∨ k = 4 ∨ k = 5 := by omega
  rcases this with rfl | rfl | rfl | rfl | rfl | rfl <;> rfl
set_option maxHeartbeats 1000000 in
/-- MsgNames. -/
theorem names_any (w : World) : Calls Try.prog 3 #[] w fun e w' => e = .returned (.bool true) ∧ Below w.heap.size w w' := by
  have hr1 := Row.new w 3 (knd1.map (Value.int .i64))
  have hb1 := below_alloc w (.cells (knd1.map (Value.int .i64)).toArray 3)
  obtain ⟨w1, hw1⟩ : ∃ w1, w1 = w.alloc (.cells (knd1.map (Value.int .i64)).toArray 3) := ⟨_, rfl⟩
  go_enter Try.func3, Try.ntmps3
  go_upto_region 2 with fail
  rw [show (Obj.cells #[Value.int .i64 1, .int .i64 2, .int .i64 3, .int .i64 4, .int .i64 5, .int .i64 6, .int .i64 7, .int .i64 8, .int .i64 9, .int .i64 10, .int .i64 11, .int .i64 12, .int .i64 13] 3) = .cells (knd1.map (Value.int .i64)).toArray 3 from rfl, ← hw1]
  rw [← hw1] at hr1 hb1
  clear hw1
  have H1 := (show Hid (∀ k : Nat, k < 13 → w1.cell? ⟨w.heap.size, k, none⟩ = some (.int .i64 ((k : Int) + 1))) from fun k hk => hr1.cell (knd1_at hk))
  clear hr1
  go_wp2_with fail
  go_loop [9] (fun i => ∃ k : Nat, k ≤ 13 ∧ i = .int .i64 k) (fun i => 13 - (intOf i).toNat)
  case atStart => exact ⟨0, by omega, rfl⟩
  case round =>
    obtain ⟨k, hk, rfl⟩ := hrel
    by_cases hk13 : k < 13
    · have hc := H1.out k hk13
      go_wp2_with fail
      go_round
      case rel => exact ⟨k + 1, by omega, by go_num⟩
      case measure => simp [intOf]; omega
    · obtain rfl : k = 13 := by omega
      clear H1
      have hr2 := Row.new w1 3 (knd2.map (Value.int .i64))
      have hb2 := below_alloc w1 (.cells (knd2.map (Value.int .i64)).toArray 3)
      obtain ⟨w2, hw2⟩ : ∃ w2, w2 = w1.alloc (.cells (knd2.map (Value.int .i64)).toArray 3) := ⟨_, rfl⟩
      go_upto_region 9 with fail
      rw [show (Obj.cells #[Value.int .i64 20, .int .i64 21, .int .i64 22, .int .i64 23, .int .i64 24, .int .i64 25] 3) = .cells (knd2.map (Value.int .i64)).toArray 3 from rfl, ← hw2]
      rw [← hw2] at hr2 hb2
      clear hw2
      have H2 := (show Hid (∀ k : Nat, k < 6 → w2.cell? ⟨w1.heap.size, k, none⟩ = some (.int .i64 ((k : Int) + 20))) from fun k hk => hr2.cell (knd2_at hk))
      clear hr2
      go_loop [21] (fun i => ∃ k : Nat, k ≤ 6 ∧ i = .int .i64 k) (fun i => 6 - (intOf i).toNat)
      case atStart => exact ⟨0, by omega, rfl⟩
      case round =>
        obtain ⟨k, hk, rfl⟩ := hrel
        by_cases hk6 : k < 6
        · have hc := H2.out k hk6
          go_wp2_with fail
          go_round
          case rel => exact ⟨k + 1, by omega, by go_num⟩
          case measure => simp [intOf]; omega
        · obtain rfl : k = 6 := by omega
          go_wp2_with fail
          refine (alive_any _).mono ?_
          rintro e w3 ⟨rfl, hb3⟩
          go_wp2_with fail
          go_ret
          exact ⟨rfl, below_and (below_and hb1 (Nat.le_refl _) hb2) (Nat.le_refl _) hb3⟩
end Go.Proofs.Ytogifpainhepoaa
