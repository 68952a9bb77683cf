/- A request's bytes for signatures: plain; the 8 bytes of a number. -/
import Derived.Test.YtgpkngiakhdmhaaDoorSBAM
import Derived.Test.YtgpkngiakhdmhaaDoorSBAT
set_option linter.unusedVariables false
namespace Go.Proofs.YtgpkngiakhdmhaaDoor
open Go.RowKit Oct
/-- The 8 bytes of a number, the least one first. -/
def le8 (u : Int) : List Int := [u % 256, u / 256 % 256, u / 65536 % 256, u / 16777216 % 256, u / 4294967296 % 256, u / 1099511627776 % 256, u / 281474976710656 % 256, u / 72057594037927936 % 256]
def u64 (n : Int) : Int := n % 18446744073709551616
theorem le8_len (u : Int) : (le8 u).length = 8 := rfl
theorem le8_byt (u : Int) : Byt (le8 u) := by
  intro x hx
  simp only [le8, List.mem_cons, List.not_mem_nil, or_false] at hx
  rcases hx with rfl | rfl | rfl | rfl | rfl | rfl | rfl | rfl <;> omega
theorem le8_at (u : Int) (k : Nat) (hk : k < 8) (m : Nat) (hm : m = 8 * k) : u / 2 ^ m % 256 = (le8 u).getD k 0 := by
  subst hm
  match k, hk with
  | 0, _ => simp [le8]
  | 1, _ => rfl
  | 2, _ => rfl
  | 3, _ => rfl
  | 4, _ => rfl
  | 5, _ => rfl
  | 6, _ => rfl
  | 7, _ => rfl
theorem le8_take (u : Int) (L : List Int) (k : Nat) (hk : k < 8) : L ++ (le8 u).take (k + 1) = (L ++ (le8 u).take k) ++ [(le8 u).getD k 0] := by
  have hb : k < (le8 u).length := by rw [le8_len]; exact hk
  rw [List.append_assoc, List.take_add_one, List.getElem?_eq_getElem hb]
  simp [List.getD, List.getElem?_eq_getElem hb]
end Go.Proofs.YtgpkngiakhdmhaaDoor
