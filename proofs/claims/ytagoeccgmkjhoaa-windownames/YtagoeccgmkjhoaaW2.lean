/- The walks over the document's own answers: numbers (catenaryref01.Int, GetInt). -/
import Derived.Test.YtagoeccgmkjhoaaW1
namespace Go.Proofs.Ytagoeccgmkjhoaa
open Go.RowKit Oct

theorem own_one (w : World) (x : Int) (e : TypeId) : Own (w.alloc (.cells #[.int .u8 x] e)) e (.slice (some ⟨w.heap.size, 0, none⟩) 1 1) (bc [x]) :=
  World.ownsRow_lit (base := 0) (size := 1) w #[.int .u8 x] 1 (Nat.zero_le _) (by decide) rfl


theorem mul_val (x y q : Int) (hq0 : 1 ≤ q) (hq : q ≤ 268435456) (y0 : 0 ≤ y) (y1 : y < q) : wrap64 (y + wrap64 (x % 128 * q)) = y + x % 128 * q := by
  have m1 : 0 ≤ x % 128 * q := Int.mul_nonneg (by omega) (by omega)
  have m2 : x % 128 * q ≤ 128 * 268435456 := Int.mul_le_mul (by omega) hq (by omega) (by omega)
  generalize x % 128 * q = r at *
  rw [IntWalk.wrap64_in r ⟨by omega, by omega⟩, IntWalk.wrap64_in (y + r) ⟨by omega, by omega⟩]
theorem pow_bd (k : Nat) (hk : k ≤ 4) : 1 ≤ (128 : Int) ^ k ∧ (128 : Int) ^ k ≤ 268435456 := by
  rcases (show k = 0 ∨ k = 1 ∨ k = 2 ∨ k = 3 ∨ k = 4 from by omega) with h | h | h | h | h <;> subst h <;> decide


end Go.Proofs.Ytagoeccgmkjhoaa
