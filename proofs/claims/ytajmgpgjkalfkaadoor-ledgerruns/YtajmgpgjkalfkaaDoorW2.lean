/- The walks over the document's own answers: numbers (catenaryref01.Int, GetInt). -/
import Derived.Test.YtajmgpgjkalfkaaDoorW1
namespace Go.Proofs.YtajmgpgjkalfkaaDoor
open Go.RowKit Oct

theorem own_one (w : World) (x : Int) (e : TypeId) : Own (w.alloc (.cells #[.int .u8 x] e)) e (.slice (some ⟨w.heap.size, 0, none⟩) 1 1) (bc [x]) :=
  World.ownsRow_lit (base := 0) (size := 1) w #[.int .u8 x] 1 (Nat.zero_le _) (by decide) rfl

theorem refInt_fuel : ∀ (f : Nat) (n : Int) (w : World), 0 ≤ n → n < 128 ^ (f + 1) → n ≤ 2147483647 →
    Calls Tryd.prog 54 #[.int .i64 n] w fun e w' => ∃ v, e = .returned (.tuple #[v, .int .i64 0]) ∧ Own w' 5 v (bc (enc n)) ∧ Fr w.heap.size v ∧ Below w.heap.size w w' := by
  intro f
  induction f with
  | zero =>
    intro n w h0 h1 h2
    have hn : n < 128 := by omega
    rw [enc_small n hn]
    clear h1
    go_enter Tryd.func54, Tryd.ntmps54
    go_wp2_with fail
    go_ret2
    exact ⟨_, rfl, own_one w n _, fr_at _ _ _ _ (Nat.le_refl _), below_alloc _ _⟩
  | succ f ih =>
    intro n w h0 h1 h2
    by_cases hn : n < 128
    · rw [enc_small n hn]
      clear h1 ih
      go_enter Tryd.func54, Tryd.ntmps54
      go_wp2_with fail
      go_ret2
      exact ⟨_, rfl, own_one w n _, fr_at _ _ _ _ (Nat.le_refl _), below_alloc _ _⟩
    · have e : (128 : Int) ^ (f + 1 + 1) = 128 ^ (f + 1) * 128 := Int.pow_succ ..
      rw [e] at h1
      have ih' := ih (n / 128) w (by omega) (by omega) (by omega)
      have HI := (show Hid (∀ _ : Unit, _) from fun _ => ih')
      rw [enc_great n (by omega) (by omega)]
      have hl := enc_len (n / 128)
      clear ih ih' e h1
      go_enter Tryd.func54, Tryd.ntmps54
      go_wp2_with (first | (go_at_call 54; refine (HI.out ()).mono ?_; rintro e w1 ⟨r, rfl, hown, hfr, hb⟩) | (at_builtin; refine app_bytes rfl _ _ rfl _ [n % 128 + 128] rfl (own_one w1 (n % 128 + 128) 5) r (enc (n / 128)) rfl (hown.below (below_alloc w1 _)).rdv (by simp only [List.length_cons, List.length_nil]; omega) ?_; intro v2 w2 happ))
      go_ret2
      refine ⟨_, rfl, happ.own, ?_, ?_⟩
      · exact happ.fr (fr_at _ _ _ _ hb.size) (by have := hb.size; simp; omega)
      · exact (hb.trans ((below_alloc w1 _).mono hb.size)).trans (happ.below (fr_at _ _ _ _ hb.size) (by have := hb.size; simp; omega))

/-- catenaryref01.Int. -/
theorem refInt_any (w : World) (n : Int) :
    Calls Tryd.prog 54 #[.int .i64 n] w fun e w' => ∃ v, e = .returned (.tuple #[v, .int .i64 (errI n)]) ∧ Own w' 5 v (bc (outI n)) ∧ Fr w.heap.size v ∧ Below w.heap.size w w' := by
  by_cases h0 : n < 0
  · rw [errI_no (.inl h0), outI_no (.inl h0)]
    go_enter Tryd.func54, Tryd.ntmps54
    go_wp2_with fail
    go_ret2
    exact ⟨_, rfl, Own.nil _ _, Fr.nil _, Below.refl _ _⟩
  by_cases h1 : 2147483647 < n
  · rw [errI_no (.inr h1), outI_no (.inr h1)]
    go_enter Tryd.func54, Tryd.ntmps54
    go_wp2_with fail
    go_ret2
    exact ⟨_, rfl, Own.nil _ _, Fr.nil _, Below.refl _ _⟩
  · rw [errI_yes (by omega) (by omega), outI_yes (by omega) (by omega)]
    exact refInt_fuel 4 n w (by omega) (by omega) (by omega)

theorem mul_val (x y q : Int) (hq0 : 1 ≤ q) (hq : q ≤ 268435456) (y0 : 0 ≤ y) (y1 : y < q) : wrap64 (y + wrap64 (x % 128 * q)) = y + x % 128 * q := by
  have m1 : 0 ≤ x % 128 * q := Int.mul_nonneg (by omega) (by omega)
  have m2 : x % 128 * q ≤ 128 * 268435456 := Int.mul_le_mul (by omega) hq (by omega) (by omega)
  generalize x % 128 * q = r at *
  rw [IntWalk.wrap64_in r ⟨by omega, by omega⟩, IntWalk.wrap64_in (y + r) ⟨by omega, by omega⟩]
theorem pow_bd (k : Nat) (hk : k ≤ 4) : 1 ≤ (128 : Int) ^ k ∧ (128 : Int) ^ k ≤ 268435456 := by
  rcases (show k = 0 ∨ k = 1 ∨ k = 2 ∨ k = 3 ∨ k = 4 from by omega) with h | h | h | h | h <;> subst h <;> decide


end Go.Proofs.YtajmgpgjkalfkaaDoor
