/- The walks over the document's own numbers, over ballots and heads. -/
import Derived.Test.YtcajelodbfpkfaaB1
namespace Go.Proofs.Ytcajelodbfpkfaa
open Go.RowKit Oct Bal

theorem fau_at {n : Int} {j : Nat} (h : n = 3 * (j : Int) + 1) (h1 : 1 ≤ j) (h5 : j ≤ 5) : fau n = j := by
  have : j = 1 ∨ j = 2 ∨ j = 3 ∨ j = 4 ∨ j = 5 := by omega
  rcases this with rfl | rfl | rfl | rfl | rfl <;> subst h <;> rfl
theorem fau_none {n : Int} (h : ∀ j : Nat, 1 ≤ j → j < 6 → n ≠ 3 * (j : Int) + 1) : fau n = 0 := by
  have h1 := h 1 (by omega) (by omega)
  have h2 := h 2 (by omega) (by omega)
  have h3 := h 3 (by omega) (by omega)
  have h4 := h 4 (by omega) (by omega)
  have h5 := h 5 (by omega) (by omega)
  unfold fau
  rw [if_neg (by omega), if_neg (by omega), if_neg (by omega), if_neg (by omega), if_neg (by omega)]

theorem refFaults_any (w : World) (n : Int) : Calls Try.prog 13 #[.int .i64 n] w fun e w' => e = .returned (.int .i64 (fau n)) ∧ w' = w := by
  obtain ⟨r, hr⟩ : ∃ r, r = fau n := ⟨_, rfl⟩
  rw [← hr]
  have HR := (show Hid (r = fau n) from hr)
  clear hr
  go_enter Try.func13, Try.ntmps13
  go_wp2_with fail
  go_loop [3] (fun i => ∃ k : Nat, 1 ≤ k ∧ k ≤ 6 ∧ i = .int .i64 k ∧ Hid (∀ j : Nat, 1 ≤ j → j < k → n ≠ 3 * (j : Int) + 1)) (fun i => 6 - (intOf i).toNat)
  case atStart => exact ⟨1, by omega, by omega, rfl, fun j h1 h2 => by omega⟩
  case round =>
    obtain ⟨k, hk1, hk6, rfl, hno⟩ := hrel
    by_cases hk : k < 6
    · have hi : (k : Int) ≤ 5 := by omega
      by_cases hn : n = 3 * (k : Int) + 1
      · have hr' : r = k := by rw [HR.out, fau_at hn hk1 (by omega)]
        subst hr'
        clear HR
        go_wp2_with fail
        go_ret
        exact ⟨rfl, rfl⟩
      · have hnx : ¬ (n = 3 * (k : Int) + 1) := hn
        go_wp2_with fail
        go_round
        case rel => exact ⟨k + 1, by omega, by omega, by go_num, fun j h1 h2 => by
          rcases Nat.lt_or_ge j k with h | h
          · exact hno.out j h1 h
          · obtain rfl : j = k := by omega
            exact hn⟩
        case measure => simp [intOf]; omega
    · have hi : ¬ (k : Int) ≤ 5 := by omega
      obtain rfl : k = 6 := by omega
      have hr' : r = 0 := by rw [HR.out, fau_none hno.out]
      subst hr'
      clear HR
      go_wp2_with fail
      go_ret
      exact ⟨rfl, rfl⟩
theorem refRight_any (w : World) (n : Int) : Calls Try.prog 11 #[.int .i64 n] w fun e w' => e = .returned (.bool (rgt n)) ∧ w' = w := by
  have hF := refFaults_any w n
  by_cases h : rgt n = true
  · have h1 := fau_pos.2 h
    rw [h]
    clear h
    generalize fau n = f at *
    go_enter Try.func11, Try.ntmps11
    go_wp2_with fail
    refine hF.mono ?_
    rintro e w1 ⟨rfl, rfl⟩
    clear hF
    go_wp2_with fail
    go_ret
    exact ⟨rfl, rfl⟩
  · rw [fau_no h] at hF
    rw [rgt_no h]
    go_enter Try.func11, Try.ntmps11
    go_wp2_with fail
    refine hF.mono ?_
    rintro e w1 ⟨rfl, rfl⟩
    clear hF
    go_wp2_with fail
    go_ret
    exact ⟨rfl, rfl⟩
theorem refRight_yes (w : World) (n : Int) (h : rgt n = true) : Calls Try.prog 11 #[.int .i64 n] w fun e w' => e = .returned (.bool true) ∧ w' = w := h ▸ refRight_any w n
theorem refRight_not (w : World) (n : Int) (h : ¬ rgt n = true) : Calls Try.prog 11 #[.int .i64 n] w fun e w' => e = .returned (.bool false) ∧ w' = w := rgt_no h ▸ refRight_any w n
theorem refQuorum_any (w : World) (n : Int) : Calls Try.prog 15 #[.int .i64 n] w fun e w' => e = .returned (.int .i64 (quo n)) ∧ w' = w := by
  by_cases h : rgt n = true
  · have hR := refRight_yes w n h
    have hF := refFaults_any w n
    have h5 := fau_five (n := n)
    rw [quo_yes h]
    clear h
    generalize fau n = f at *
    go_enter Try.func15, Try.ntmps15
    go_wp2_with fail
    refine hR.mono ?_
    rintro e w1 ⟨rfl, rfl⟩
    clear hR
    go_wp2_with fail
    refine hF.mono ?_
    rintro e w1 ⟨rfl, rfl⟩
    clear hF
    go_wp2_with fail
    go_ret
    exact ⟨ret_int (by omega), rfl⟩
  · have hR := refRight_not w n h
    rw [quo_no h]
    clear h
    go_enter Try.func15, Try.ntmps15
    go_wp2_with fail
    refine hR.mono ?_
    rintro e w1 ⟨rfl, rfl⟩
    clear hR
    go_wp2_with fail
    go_ret
    exact ⟨rfl, rfl⟩
theorem refWeak_any (w : World) (n : Int) : Calls Try.prog 17 #[.int .i64 n] w fun e w' => e = .returned (.int .i64 (wea n)) ∧ w' = w := by
  by_cases h : rgt n = true
  · have hR := refRight_yes w n h
    have hF := refFaults_any w n
    have h5 := fau_five (n := n)
    rw [wea_yes h]
    clear h
    generalize fau n = f at *
    go_enter Try.func17, Try.ntmps17
    go_wp2_with fail
    refine hR.mono ?_
    rintro e w1 ⟨rfl, rfl⟩
    clear hR
    go_wp2_with fail
    refine hF.mono ?_
    rintro e w1 ⟨rfl, rfl⟩
    clear hF
    go_wp2_with fail
    go_ret
    exact ⟨ret_int (by omega), rfl⟩
  · have hR := refRight_not w n h
    rw [wea_no h]
    clear h
    go_enter Try.func17, Try.ntmps17
    go_wp2_with fail
    refine hR.mono ?_
    rintro e w1 ⟨rfl, rfl⟩
    clear hR
    go_wp2_with fail
    go_ret
    exact ⟨rfl, rfl⟩

theorem isNaN_any (w : World) (x : Int) : Calls Try.prog 33 #[.int .i64 x] w fun e w' => e = .returned (.bool false) ∧ w' = w := by
  have hne : (x != x) = false := by simp
  go_enter Try.func33, Try.ntmps33
  go_wp2_with fail
  go_ret
  exact ⟨rfl, rfl⟩
theorem cmpInt_any (w : World) (x y : Int) : Calls Try.prog 31 #[.int .i64 x, .int .i64 y] w fun e w' => e = .returned (.int .i64 (cm x y)) ∧ w' = w := by
  by_cases h : x < y
  · rw [cm, if_pos h]
    go_enter Try.func31, Try.ntmps31
    go_wp2_with (go_at_call 33; refine (isNaN_any _ _).mono ?_; rintro e w' ⟨rfl, rfl⟩)
    go_ret
    exact ⟨rfl, rfl⟩
  by_cases h2 : y < x
  · rw [cm, if_neg h, if_pos h2]
    go_enter Try.func31, Try.ntmps31
    go_wp2_with (go_at_call 33; refine (isNaN_any _ _).mono ?_; rintro e w' ⟨rfl, rfl⟩)
    go_ret
    exact ⟨rfl, rfl⟩
  · rw [cm, if_neg h, if_neg h2]
    go_enter Try.func31, Try.ntmps31
    go_wp2_with (go_at_call 33; refine (isNaN_any _ _).mono ?_; rintro e w' ⟨rfl, rfl⟩)
    go_ret
    exact ⟨rfl, rfl⟩
/-- A ballot as a value. -/
abbrev bal (v t : Int) : Value := .agg #[.int .i64 v, .int .i64 t]
theorem compare_any (w : World) (a b c d : Int) : Calls Try.prog 18 #[bal a b, bal c d] w fun e w' => e = .returned (.int .i64 (cmp2 a b c d)) ∧ Below w.heap.size w w' := by
  by_cases h : a = c
  · rw [cmp2, if_pos h]
    subst h
    have hne : (a != a) = false := by simp
    have hC := fun W => cmpInt_any W b d
    have HC := (show Hid (∀ W, _) from hC)
    clear hC
    generalize cm b d = r at *
    go_enter Try.func18, Try.ntmps18
    go_wp2_with (go_at_call 31; refine (HC.out _).mono ?_; rintro e w' ⟨rfl, rfl⟩)
    go_ret
    exact ⟨rfl, below_and (below_alloc _ _) (Nat.le_refl _) (below_alloc _ _)⟩
  · rw [cmp2, if_neg h]
    have hne : (a != c) = true := by simpa using h
    have hC := fun W => cmpInt_any W a c
    have HC := (show Hid (∀ W, _) from hC)
    clear hC
    generalize cm a c = r at *
    go_enter Try.func18, Try.ntmps18
    go_wp2_with (go_at_call 31; refine (HC.out _).mono ?_; rintro e w' ⟨rfl, rfl⟩)
    go_ret
    exact ⟨rfl, below_and (below_alloc _ _) (Nat.le_refl _) (below_alloc _ _)⟩
theorem cmp2_lt {a c : Int} (b d : Int) (h : a < c) : cmp2 a b c d = -1 := by rw [cmp2, if_neg (by omega), cm, if_pos h]
theorem cmp2_gt {a c : Int} (b d : Int) (h : c < a) : cmp2 a b c d = 1 := by rw [cmp2, if_neg (by omega), cm, if_neg (by omega), if_pos h]
theorem refCompare_any (w : World) (a b c d : Int) : Calls Try.prog 19 #[bal a b, bal c d] w fun e w' => e = .returned (.int .i64 (cmp2 a b c d)) ∧ Below w.heap.size w w' := by
  by_cases h1 : a < c
  · rw [cmp2_lt b d h1]
    go_enter Try.func19, Try.ntmps19
    go_wp2_with fail
    go_ret
    exact ⟨rfl, below_and (below_alloc _ _) (Nat.le_refl _) (below_alloc _ _)⟩
  by_cases h2 : c < a
  · rw [cmp2_gt b d h2]
    go_enter Try.func19, Try.ntmps19
    go_wp2_with fail
    go_ret
    exact ⟨rfl, below_and (below_alloc _ _) (Nat.le_refl _) (below_alloc _ _)⟩
  obtain rfl : a = c := by omega
  clear h1 h2
  rw [cmp2, if_pos rfl]
  by_cases h1 : b < d
  · rw [cm, if_pos h1]
    go_enter Try.func19, Try.ntmps19
    go_wp2_with fail
    go_ret
    exact ⟨rfl, below_and (below_alloc _ _) (Nat.le_refl _) (below_alloc _ _)⟩
  by_cases h2 : d < b
  · rw [cm, if_neg h1, if_pos h2]
    go_enter Try.func19, Try.ntmps19
    go_wp2_with fail
    go_ret
    exact ⟨rfl, below_and (below_alloc _ _) (Nat.le_refl _) (below_alloc _ _)⟩
  · rw [cm, if_neg h1, if_neg h2]
    go_enter Try.func19, Try.ntmps19
    go_wp2_with fail
    go_ret
    exact ⟨rfl, below_and (below_alloc _ _) (Nat.le_refl _) (below_alloc _ _)⟩
theorem rem_pos {v n : Int} (h0 : 0 ≤ v) : Int.tmod v n = v % n := Int.tmod_eq_emod_of_nonneg h0
theorem head_any (w : World) (v t n : Int) : Calls Try.prog 20 #[bal v t, .int .i64 n] w fun e w' => e = .returned (.int .i64 (hed v n)) ∧ Below w.heap.size w w' := by
  by_cases h : rgt n = true
  · have hR := fun W => right_yes W n h
    have HR := (show Hid (∀ W, _) from hR)
    clear hR
    have hn := rgt_le h
    by_cases h0 : v < 0
    · rw [hed_no (by omega)]
      clear h
      go_enter Try.func20, Try.ntmps20
      go_wp2_with (go_at_call 10; refine (HR.out _).mono ?_; rintro e w' ⟨rfl, rfl⟩)
      go_ret
      exact ⟨rfl, below_alloc _ _⟩
    · rw [hed_yes h (by omega)]
      have HB := (show Hid (0 ≤ v % n ∧ v % n < n) from hed_bd h)
      have hrm := rem_pos (v := v) (n := n) (by omega)
      have hnz : ¬ (n = 0) := by omega
      clear h
      go_enter Try.func20, Try.ntmps20
      go_wp2_with (go_at_call 10; refine (HR.out _).mono ?_; rintro e w' ⟨rfl, rfl⟩)
      go_ret
      exact ⟨ret_int (by have := HB.out; first | rfl | omega | (simp only [hrm]; omega)), below_alloc _ _⟩
  · have hR := fun W => right_not W n h
    have HR := (show Hid (∀ W, _) from hR)
    clear hR
    rw [hed_no (fun e => h e.1)]
    clear h
    go_enter Try.func20, Try.ntmps20
    go_wp2_with (go_at_call 10; refine (HR.out _).mono ?_; rintro e w' ⟨rfl, rfl⟩)
    go_ret
    exact ⟨rfl, below_alloc _ _⟩
theorem refHead_any (w : World) (v t n : Int) : Calls Try.prog 21 #[bal v t, .int .i64 n] w fun e w' => e = .returned (.int .i64 (hed v n)) ∧ Below w.heap.size w w' := by
  by_cases h : rgt n = true
  · have hR := fun W => refRight_yes W n h
    have HR := (show Hid (∀ W, _) from hR)
    clear hR
    have hn := rgt_le h
    by_cases h0 : v < 0
    · rw [hed_no (by omega)]
      clear h
      go_enter Try.func21, Try.ntmps21
      go_wp2_with (go_at_call 11; refine (HR.out _).mono ?_; rintro e w' ⟨rfl, rfl⟩)
      go_ret
      exact ⟨rfl, below_alloc _ _⟩
    · rw [hed_yes h (by omega)]
      have HB := (show Hid (0 ≤ v % n ∧ v % n < n) from hed_bd h)
      have hrm := rem_pos (v := v) (n := n) (by omega)
      have hnz : ¬ (n = 0) := by omega
      clear h
      go_enter Try.func21, Try.ntmps21
      go_wp2_with (go_at_call 11; refine (HR.out _).mono ?_; rintro e w' ⟨rfl, rfl⟩)
      go_ret
      exact ⟨ret_int (by have := HB.out; first | rfl | omega | (simp only [hrm]; omega)), below_alloc _ _⟩
  · have hR := fun W => refRight_not W n h
    have HR := (show Hid (∀ W, _) from hR)
    clear hR
    rw [hed_no (fun e => h e.1)]
    clear h
    go_enter Try.func21, Try.ntmps21
    go_wp2_with (go_at_call 11; refine (HR.out _).mono ?_; rintro e w' ⟨rfl, rfl⟩)
    go_ret
    exact ⟨rfl, below_alloc _ _⟩
end Go.Proofs.Ytcajelodbfpkfaa
