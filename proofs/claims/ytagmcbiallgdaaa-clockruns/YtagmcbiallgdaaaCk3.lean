/- Clocks in memory: what each method does; clockAlive. -/
import Derived.Test.YtagmcbiallgdaaaCk1
import Derived.Test.YtagmcbiallgdaaaRw
set_option linter.unusedVariables false
set_option linter.unusedSimpArgs false
namespace Go.Proofs.Ytagmcbiallgdaaa
open Go.RowKit Oct Bal Clk

/-- A clock at block b. -/
def Ck (w : World) (b : Nat) (a k : Int) : Prop := Row w b 38 [.int .i64 a, .int .i64 k]
/-- Tick, Slow: plain. -/
def tkC (a : Int) : Int := if a < 2147483647 then a + 1 else a
def slC (k : Int) : Int := if k < 8 then k + 1 else k

theorem newC_any (w : World) : Calls Try.prog 14 #[] w fun e w' => e = .returned (.pointer (some ⟨w.heap.size, 0, none⟩)) ∧ Ck w' w.heap.size 0 0 ∧ Below w.heap.size w w' := by
  go_enter Try.func14, Try.ntmps14
  go_wp2_with fail
  go_ret
  exact ⟨rfl, Row.new w 38 [.int .i64 0, .int .i64 0], below_alloc _ _⟩

theorem ageC_any (w : World) (b : Nat) (a k : Int) (h : Ck w b a k) : Calls Try.prog 21 #[.pointer (some ⟨b, 0, none⟩)] w fun e w' => e = .returned (.int .i64 a) ∧ w' = w := by
  have c0 := Row.cell h (j := 0) rfl
  clear h
  go_enter Try.func21, Try.ntmps21
  go_wp2_with fail
  go_ret
  exact ⟨rfl, rfl⟩

theorem backC_any (w : World) (b : Nat) (a k : Int) (h : Ck w b a k) : Calls Try.prog 22 #[.pointer (some ⟨b, 0, none⟩)] w fun e w' => e = .returned (.int .i64 k) ∧ w' = w := by
  have c1 := Row.cell h (j := 1) rfl
  clear h
  go_enter Try.func22, Try.ntmps22
  go_wp2_with fail
  go_ret
  exact ⟨rfl, rfl⟩

theorem tickC_any (w : World) (b : Nat) (a k : Int) (h : Ck w b a k) (h0 : 0 ≤ a) : Calls Try.prog 15 #[.pointer (some ⟨b, 0, none⟩)] w fun e w' => e = .returned (.tuple #[]) ∧ Ck w' b (tkC a) k ∧ w.grownBy w' (some b) := by
  have c0 := Row.cell h (j := 0) rfl
  unfold tkC
  by_cases ha : a < 2147483647
  · rw [if_pos ha]
    go_enter Try.func15, Try.ntmps15
    go_wp2_with (refine wl_set rfl _ _ _ rfl b 0 (.int .i64 (a + 1)) rfl (by go_num) _ _ h (show 0 < 2 by decide) (by kernel_rfl) rfl ?_; intro w3 hr3 hg3)
    go_end0
    exact ⟨rfl, hr3.out, hg3⟩
  · rw [if_neg ha]
    go_enter Try.func15, Try.ntmps15
    go_wp2_with fail
    go_end0
    exact ⟨rfl, h, grown_refl _ _⟩

theorem resetC_any (w : World) (b : Nat) (a k : Int) (h : Ck w b a k) : Calls Try.prog 17 #[.pointer (some ⟨b, 0, none⟩)] w fun e w' => e = .returned (.tuple #[]) ∧ Ck w' b 0 k ∧ w.grownBy w' (some b) := by
  go_enter Try.func17, Try.ntmps17
  go_wp2_with (refine wl_set rfl _ _ _ rfl b 0 (.int .i64 0) rfl rfl _ _ h (show 0 < 2 by decide) (by kernel_rfl) rfl ?_; intro w3 hr3 hg3)
  go_end0
  exact ⟨rfl, hr3.out, hg3⟩
theorem slowC_any (w : World) (b : Nat) (a k : Int) (h : Ck w b a k) (h0 : 0 ≤ k) : Calls Try.prog 18 #[.pointer (some ⟨b, 0, none⟩)] w fun e w' => e = .returned (.tuple #[]) ∧ Ck w' b 0 (slC k) ∧ w.grownBy w' (some b) := by
  unfold slC
  by_cases hk : k < 8
  · rw [if_pos hk]
    go_enter Try.func18, Try.ntmps18
    go_wp2_with (first
      | (go_at_call 17; refine (resetC_any w b a k h).mono ?_; rintro e w2 ⟨rfl, h2, hg2⟩; have c1 := Row.cell h2 (j := 1) rfl)
      | (refine wl_set rfl _ _ _ rfl b 1 (.int .i64 (k + 1)) rfl (by go_num) _ _ h2 (show 1 < 2 by decide) (by kernel_rfl) rfl ?_; intro w3 hr3 hg3))
    go_end0
    exact ⟨rfl, hr3.out, grown_trans hg2 hg3 (.inl rfl)⟩
  · rw [if_neg hk]
    go_enter Try.func18, Try.ntmps18
    go_wp2_with (go_at_call 17; refine (resetC_any w b a k h).mono ?_; rintro e w2 ⟨rfl, h2, hg2⟩; have c1 := Row.cell h2 (j := 1) rfl)
    go_end0
    exact ⟨rfl, h2, hg2⟩
theorem doneC_any (w : World) (b : Nat) (a k : Int) (h : Ck w b a k) : Calls Try.prog 20 #[.pointer (some ⟨b, 0, none⟩)] w fun e w' => e = .returned (.tuple #[]) ∧ Ck w' b 0 0 ∧ w.grownBy w' (some b) := by
  go_enter Try.func20, Try.ntmps20
  go_wp2_with (first
    | (go_at_call 17; refine (resetC_any w b a k h).mono ?_; rintro e w2 ⟨rfl, h2, hg2⟩)
    | (refine wl_set rfl _ _ _ rfl b 1 (.int .i64 0) rfl rfl _ _ h2 (show 1 < 2 by decide) (by kernel_rfl) rfl ?_; intro w3 hr3 hg3))
  go_end0
  exact ⟨rfl, hr3.out, grown_trans hg2 hg3 (.inl rfl)⟩

theorem acc_a : acc 0 0 3 = 8 := by decide
theorem acc_b : acc 0 1 3 = 6 := by decide
theorem chg_a : chg 0 3 = 14 := by decide
theorem clockAlive_any (w : World) : Calls Try.prog 7 #[] w fun e w' => e = .returned (.bool true) ∧ Below w.heap.size w w' := by
  have le := Nat.le_refl w.heap.size
  go_enter Try.func7, Try.ntmps7
  go_wp2_with fail
  refine (newC_any w).mono ?_
  rintro e w1 ⟨rfl, h1, hb1⟩
  generalize hb : w.heap.size = b at h1 ⊢
  have hbw : w.heap.size ≤ b := Nat.le_of_eq hb
  clear hb
  go_wp2_with fail
  refine (tickC_any w1 b 0 0 h1 (by decide)).mono ?_
  rintro e w2 ⟨rfl, h2, hg2⟩
  have hB := hb1.trans (grown_below hg2 hb1.size (fun k hk => by cases hk; exact hbw))
  have hA := ageC_any w2 b 1 0 h2
  clear h1 hg2 hb1 h2
  go_wp2_with (first
    | (go_at_call 21; refine hA.mono ?_; rintro e w2 ⟨rfl, rfl⟩)
    | (go_at_call 10; refine (accuseC_any _ _ _ _).mono ?_; rintro e w2 ⟨rfl, rfl⟩; first | rw [acc_a] | rw [acc_b])
    | (go_at_call 12; refine (changeC_any _ _ _).mono ?_; rintro e w2 ⟨rfl, rfl⟩; rw [chg_a]))
  go_ret
  exact ⟨rfl, hB⟩
end Go.Proofs.Ytagmcbiallgdaaa
