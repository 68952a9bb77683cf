/- A request's bytes for signatures: plain; the 8 bytes of a number. -/
import Derived.Test.YtajmgpgjkalfkaaDoorW4
import Derived.Test.YtajmgpgjkalfkaaDoorRm
set_option linter.unusedVariables false
namespace Go.Proofs.YtajmgpgjkalfkaaDoor
open Go.RowKit Oct

/-- The 8 bytes of a number, the least one first. -/
def le8 (u : Int) : List Int := [u % 256, u / 256 % 256, u / 65536 % 256, u / 16777216 % 256, u / 4294967296 % 256, u / 1099511627776 % 256, u / 281474976710656 % 256, u / 72057594037927936 % 256]
def u64 (n : Int) : Int := n % 18446744073709551616
theorem le8_len (u : Int) : (le8 u).length = 8 := rfl
theorem le8_byt (u : Int) : Byt (le8 u) := by
  intro x hx
  simp only [le8, List.mem_cons, List.not_mem_nil, or_false] at hx
  rcases hx with rfl | rfl | rfl | rfl | rfl | rfl | rfl | rfl <;> omega
theorem le8_inj {a b : Int} (a0 : 0 ≤ a) (a1 : a < 18446744073709551616) (b0 : 0 ≤ b) (b1 : b < 18446744073709551616) (h : le8 a = le8 b) : a = b := by
  simp only [le8, List.cons.injEq, and_true] at h
  omega
theorem u64_inj {a b : Int} (a0 : -9223372036854775808 ≤ a) (a1 : a ≤ 9223372036854775807) (b0 : -9223372036854775808 ≤ b) (b1 : b ≤ 9223372036854775807) (h : u64 a = u64 b) : a = b := by
  unfold u64 at h
  omega
theorem le8_at (u : Int) (k : Nat) (hk : k < 8) (m : Nat) (hm : m = 8 * k) : u / 2 ^ m % 256 = (le8 u).getD k 0 := by
  subst hm
  match k, hk with
  | 0, _ => simp [le8]
  | 1, _ => rfl
  | 2, _ => rfl
  | 3, _ => rfl
  | 4, _ => rfl
  | 5, _ => rfl
  | 6, _ => rfl
  | 7, _ => rfl
theorem le8_take (u : Int) (L : List Int) (k : Nat) (hk : k < 8) : L ++ (le8 u).take (k + 1) = (L ++ (le8 u).take k) ++ [(le8 u).getD k 0] := by
  have hb : k < (le8 u).length := by rw [le8_len]; exact hk
  rw [List.append_assoc, List.take_add_one, List.getElem?_eq_getElem hb]
  simp [List.getD, List.getElem?_eq_getElem hb]
/-- The body. -/
def body (x : PReq) : List Int := le8 (u64 x.1) ++ le8 (u64 x.2.1) ++ packL [x.2.2.1, x.2.2.2]
theorem body_inj {x y : PReq} (hx : tot [x.2.2.1, x.2.2.2] ≤ 2147483647) (hy : tot [y.2.2.1, y.2.2.2] ≤ 2147483647) (x0 : -9223372036854775808 ≤ x.1 ∧ x.1 ≤ 9223372036854775807) (x1 : -9223372036854775808 ≤ x.2.1 ∧ x.2.1 ≤ 9223372036854775807)
    (y0 : -9223372036854775808 ≤ y.1 ∧ y.1 ≤ 9223372036854775807) (y1 : -9223372036854775808 ≤ y.2.1 ∧ y.2.1 ≤ 9223372036854775807) : body x = body y ↔ x = y := by
  refine ⟨fun h => ?_, fun h => by rw [h]⟩
  unfold body at h
  obtain ⟨h1, h2⟩ := List.append_inj h (by simp [le8_len])
  obtain ⟨h3, h4⟩ := List.append_inj h1 (by simp [le8_len])
  have h5 := packL_inj hx hy h2
  have ub : ∀ n, 0 ≤ u64 n ∧ u64 n < 18446744073709551616 := fun n => by unfold u64; omega
  have e1 := u64_inj x0.1 x0.2 y0.1 y0.2 (le8_inj (ub _).1 (ub _).2 (ub _).1 (ub _).2 h3)
  have e2 := u64_inj x1.1 x1.2 y1.1 y1.2 (le8_inj (ub _).1 (ub _).2 (ub _).1 (ub _).2 h4)
  obtain ⟨a, b, c, d⟩ := x
  obtain ⟨a', b', c', d'⟩ := y
  simp only [List.cons.injEq, and_true] at h5
  simp only at e1 e2
  rw [e1, e2, h5.1, h5.2]

/-- msg.appendWord. -/
theorem appendWord_any (w : World) (v : Value) (L : List Int) (n : Int) (hown : Own w 5 v (bc L)) (hl : L.length ≤ 140737488355300) :
    Calls Tryd.prog 36 #[v, .int .i64 n] w fun e w' => ∃ v', e = .returned v' ∧ App w 5 v w' v' (bc (L ++ le8 (u64 n))) := by
  go_enter Tryd.func36, Tryd.ntmps36
  go_wp2_with fail
  go_loopw [0, 6] (fun o i wr => ∃ k : Nat, k ≤ 8 ∧ i = .int .i64 k ∧ App w 5 v wr o (bc (L ++ (le8 (u64 n)).take k))) (fun _ i _ => (8 - intOf i).toNat)
  case atStart => exact ⟨0, by omega, rfl, by rw [List.take_zero, List.append_nil]; exact app_start hown⟩
  case round =>
    obtain ⟨k, hk, rfl, happ⟩ := hrel
    by_cases hk8 : k < 8
    · obtain ⟨m, hm⟩ : ∃ m : Nat, (8 : Int) * (k : Int) = m := ⟨8 * k, by omega⟩
      have HM := (show Hid (u64 n / 2 ^ m % 256 = (le8 (u64 n)).getD k 0) from le8_at (u64 n) k hk8 m (by omega))
      have HX := (show Hid (L ++ (le8 (u64 n)).take (k + 1) = (L ++ (le8 (u64 n)).take k) ++ [(le8 (u64 n)).getD k 0]) from le8_take _ _ _ hk8)
      have HT := (show Hid ((L ++ (le8 (u64 n)).take k).length ≤ 140737488355308) by
        show (L ++ (le8 (u64 n)).take k).length ≤ _
        rw [List.length_append, List.length_take, le8_len]
        omega)
      have hm0 : (0 : Int) ≤ (m : Int) := by omega
      have hgo := happ.own
      go_wp2_with (at_builtin; refine app_bytes rfl _ _ rfl _ (L ++ (le8 (u64 n)).take k) rfl (World.ownsRow.alloc hgo _) _ [u64 n / 2 ^ m % 256] rfl (rdv_one wr _ _) (by have := HT.out; simp only [List.length_cons, List.length_nil]; omega) ?_; intro o4 w4 happ4)
      have hp4 := happ.trans (happ4.pre (below_alloc wr _))
      rw [HM.out, ← HX.out] at hp4
      clear happ happ4 hgo
      go_roundw
      case rel => exact ⟨k + 1, by omega, by go_num, hp4⟩
      case measure => simp [intOf]; omega
    · rw [List.take_of_length_le (by rw [le8_len]; omega)] at happ
      go_wp2_with fail
      go_ret
      exact ⟨_, rfl, happ⟩
end Go.Proofs.YtajmgpgjkalfkaaDoor
