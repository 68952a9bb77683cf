/- The walks over package sha and its reference: turns of a word. -/
import Derived.Test.YtgpkngiakhdmhaaDoorSAAL
import Derived.Test.YtgpkngiakhdmhaaDoorSAAB
import Derived.Laws.Shifts
namespace Go.Proofs.YtgpkngiakhdmhaaDoor
open Go.RowKit Oct Sha
theorem and31 (z : Int) (h0 : 0 ≤ z) (h1 : z < 18446744073709551616) : bits .and .u64 z 31 = z % 32 :=
  bits_mask .u64 64 (by decide) (fun n a b => by rw [IntKind.wrap_u64]; omega) 5 (by decide) z h0 h1
/-- A word turned left by a number under 0. -/
theorem rotl_any (w : World) (x : BitVec 32) (n : Nat) (h0 : 1 ≤ n) (h1 : n ≤ 31) :
    Calls Tryd.prog 90 #[.int .u32 (wi x), .int .i64 (-(n : Int))] w fun e w' => e = .returned (.int .u32 (wi (rotr x n))) ∧ w' = w := by
  obtain ⟨m, hm, hm0, hm1⟩ : ∃ m : Nat, m = 32 - n ∧ 1 ≤ m ∧ m ≤ 31 := ⟨32 - n, rfl, by omega, by omega⟩
  have hs : bits .and .u64 (IntKind.u64.wrap (-(n : Int))) 31 = (m : Int) := by
    have h : IntKind.u64.wrap (-(n : Int)) = 18446744073709551616 - (n : Int) := by rw [IntKind.wrap_u64]; omega
    rw [h, and31 _ (by omega) (by omega)]
    omega
  have hd : (32 : Int) - m = n := by omega
  rw [show rotr x n = (x <<< m) ||| (x >>> n) by rw [hm, rotr, BitVec.or_comm]]
  clear hm
  go_enter Tryd.func90, Tryd.ntmps90
  go_wp2_with fail
  go_ret
  exact ⟨ret_int (by rw [shl_wi, shr_wi, bits_or]), rfl⟩
theorem rotR_any (w : World) (x : BitVec 32) (n : Nat) (h0 : 1 ≤ n) (h1 : n ≤ 31) :
    Calls Tryd.prog 89 #[.int .u32 (wi x), .int .i64 (n : Int)] w fun e w' => e = .returned (.int .u32 (wi (rotr x n))) ∧ w' = w := by
  go_enter Tryd.func89, Tryd.ntmps89
  go_wp2_with fail
  refine (rotl_any _ x n h0 h1).mono ?_
  rintro e w' ⟨rfl, rfl⟩
  go_wp2_with fail
  go_ret
  exact ⟨rfl, rfl⟩
theorem turned_any (w : World) (x : BitVec 32) (i j k : Nat) (hi : 1 ≤ i ∧ i ≤ 31) (hj : 1 ≤ j ∧ j ≤ 31) (hk : 1 ≤ k ∧ k ≤ 31) :
    Calls Tryd.prog 88 #[.int .u32 (wi x), .int .i64 (i : Int), .int .i64 (j : Int), .int .i64 (k : Int)] w fun e w' => e = .returned (.int .u32 (wi (rotr x i ^^^ rotr x j ^^^ rotr x k))) ∧ w' = w := by
  go_enter Tryd.func88, Tryd.ntmps88
  go_wp2_with fail
  refine (rotR_any _ x i hi.1 hi.2).mono ?_
  rintro e w' ⟨rfl, rfl⟩
  go_wp2_with fail
  refine (rotR_any _ x j hj.1 hj.2).mono ?_
  rintro e w' ⟨rfl, rfl⟩
  go_wp2_with fail
  refine (rotR_any _ x k hk.1 hk.2).mono ?_
  rintro e w' ⟨rfl, rfl⟩
  go_wp2_with fail
  go_ret
  exact ⟨ret_int (by rw [bits_xor, bits_xor]), rfl⟩
theorem S1_any (w : World) (x : BitVec 32) :
    Calls Tryd.prog 88 #[.int .u32 (wi x), .int .i64 6, .int .i64 11, .int .i64 25] w fun e w' => e = .returned (.int .u32 (wi (S1 x))) ∧ w' = w :=
  turned_any w x 6 11 25 (by decide) (by decide) (by decide)
theorem S0_any (w : World) (x : BitVec 32) :
    Calls Tryd.prog 88 #[.int .u32 (wi x), .int .i64 2, .int .i64 13, .int .i64 22] w fun e w' => e = .returned (.int .u32 (wi (S0 x))) ∧ w' = w :=
  turned_any w x 2 13 22 (by decide) (by decide) (by decide)
theorem right_7 (w : World) (x : BitVec 32) : Calls Tryd.prog 89 #[.int .u32 (wi x), .int .i64 7] w fun e w' => e = .returned (.int .u32 (wi (rotr x 7))) ∧ w' = w := rotR_any w x 7 (by decide) (by decide)
theorem right_17 (w : World) (x : BitVec 32) : Calls Tryd.prog 89 #[.int .u32 (wi x), .int .i64 17] w fun e w' => e = .returned (.int .u32 (wi (rotr x 17))) ∧ w' = w := rotR_any w x 17 (by decide) (by decide)
theorem right_18 (w : World) (x : BitVec 32) : Calls Tryd.prog 89 #[.int .u32 (wi x), .int .i64 18] w fun e w' => e = .returned (.int .u32 (wi (rotr x 18))) ∧ w' = w := rotR_any w x 18 (by decide) (by decide)
theorem right_19 (w : World) (x : BitVec 32) : Calls Tryd.prog 89 #[.int .u32 (wi x), .int .i64 19] w fun e w' => e = .returned (.int .u32 (wi (rotr x 19))) ∧ w' = w := rotR_any w x 19 (by decide) (by decide)
theorem small0_any (w : World) (x : BitVec 32) : Calls Tryd.prog 87 #[.int .u32 (wi x)] w fun e w' => e = .returned (.int .u32 (wi (s0 x))) ∧ w' = w := by
  go_enter Tryd.func87, Tryd.ntmps87
  go_wp2_with fail
  refine (right_7 _ x).mono ?_
  rintro e w' ⟨rfl, rfl⟩
  go_wp2_with fail
  refine (right_18 _ x).mono ?_
  rintro e w' ⟨rfl, rfl⟩
  go_wp2_with fail
  go_ret
  exact ⟨ret_int (by rw [show (8 : Int) = 2 ^ 3 from rfl, shr_wi, bits_xor, bits_xor]; rfl), rfl⟩
theorem small1_any (w : World) (x : BitVec 32) : Calls Tryd.prog 86 #[.int .u32 (wi x)] w fun e w' => e = .returned (.int .u32 (wi (s1 x))) ∧ w' = w := by
  go_enter Tryd.func86, Tryd.ntmps86
  go_wp2_with fail
  refine (right_17 _ x).mono ?_
  rintro e w' ⟨rfl, rfl⟩
  go_wp2_with fail
  refine (right_19 _ x).mono ?_
  rintro e w' ⟨rfl, rfl⟩
  go_wp2_with fail
  go_ret
  exact ⟨ret_int (by rw [show (1024 : Int) = 2 ^ 10 from rfl, shr_wi, bits_xor, bits_xor]; rfl), rfl⟩
end Go.Proofs.YtgpkngiakhdmhaaDoor
