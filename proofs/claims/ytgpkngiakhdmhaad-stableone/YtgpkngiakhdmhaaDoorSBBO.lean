/- slices' stable sort over votes: rotate. -/
import Derived.Test.YtgpkngiakhdmhaaDoorSBBK
set_option linter.unusedSimpArgs false
set_option linter.unusedVariables false
namespace Go.Proofs.YtgpkngiakhdmhaaDoor
open Go.RowKit Oct
set_option maxRecDepth 10000 in
set_option maxHeartbeats 2000000 in
theorem rotate_any (w : World) (g n cap a m b : Nat) (f : Value) (P A B S : List VC) (rest : List Value) (ha : P.length = a) (hA : a + A.length = m) (hB : m + B.length = b) (hA0 : 0 < A.length) (hB0 : 0 < B.length) (hR : Row w g 28 (vfl (P ++ A ++ B ++ S) ++ rest)) (hn : (P ++ A ++ B ++ S).length = n) (hc : n ≤ cap) (hm : cap ≤ maxLen)
    (hone : ∀ x ∈ P ++ A ++ B ++ S, IsS x.1) :
    Calls Tryd.prog 73 #[.slice (some ⟨g, 0, none⟩) n cap, .int .i64 a, .int .i64 m, .int .i64 b, f] w fun e w' => e = .returned (.tuple #[]) ∧ Row w' g 28 (vfl (P ++ B ++ A ++ S) ++ rest) ∧ w.grownBy w' (some g) := by
  have hbn : b ≤ n := by simp only [List.length_append] at hn; omega
  have hnm : (n : Int) ≤ 9223372036854775807 := by unfold maxLen at hm; omega
  have HO := (show Hid (∀ x ∈ P ++ B ++ A ++ S, IsS x.1) from fun x hx => hone x (by simp only [List.mem_append] at hx ⊢; rcases hx with ((h | h) | h) | h <;> simp [h]))
  have HN := (show Hid (P.length + A.length + B.length + S.length = n) by show _ = _; simp only [List.length_append] at hn; exact hn)
  obtain ⟨I, hI⟩ : ∃ I, I = A.length := ⟨_, rfl⟩
  obtain ⟨J, hJ⟩ : ∃ J, J = B.length := ⟨_, rfl⟩
  have h1 : m = a + I := by omega
  have h2 : b = a + I + J := by omega
  have hi0 : 0 < I := by omega
  have hj0 : 0 < J := by omega
  have ST := (show Hid (∃ P' A' B' S' : List VC, P'.length + I = m ∧ A'.length = I ∧ B'.length = J ∧ P' ++ B' ++ A' ++ S' = P ++ B ++ A ++ S ∧ Row w g 28 (vfl (P' ++ A' ++ B' ++ S') ++ rest)) from ⟨P, A, B, S, by omega, hI.symm, hJ.symm, rfl, hR⟩)
  have wI : IntKind.i64.wrap ((m : Int) - a) = (I : Int) := by rw [IntWalk.i64_in _ (by omega)]; omega
  have wJ : IntKind.i64.wrap ((b : Int) - m) = (J : Int) := by rw [IntWalk.i64_in _ (by omega)]; omega
  have hIn : (I : Int) ≤ n := by omega
  have hJn : (J : Int) ≤ n := by omega
  have hmn : m ≤ n := by omega
  clear hI hJ h1 h2 ha hA hB hA0 hB0 hR hn hone
  go_enter Tryd.func73, Tryd.ntmps73
  go_wp2_with fail
  go_loopw [10, 11] (fun i j wr => ∃ I' J' : Nat, 0 < I' ∧ 0 < J' ∧ i = .int .i64 I' ∧ j = .int .i64 J' ∧ Hid (∃ P' A' B' S' : List VC, P'.length + I' = m ∧ A'.length = I' ∧ B'.length = J' ∧ P' ++ B' ++ A' ++ S' = P ++ B ++ A ++ S ∧ Row wr g 28 (vfl (P' ++ A' ++ B' ++ S') ++ rest)) ∧ w.grownBy wr (some g)) (fun i j _ => (intOf i).toNat + (intOf j).toNat)
  case atStart => exact ⟨I, J, hi0, hj0, rfl, rfl, ST, grown_refl _ _⟩
  case round =>
    clear ST wI wJ hIn hJn
    obtain ⟨I', J', hI0, hJ0, rfl, rfl, hS, hG⟩ := hrel
    obtain ⟨P', A', B', S', l1, l2, l3, e4, r5⟩ := hS.out
    have l5 : P'.length + J' + I' + S'.length = n := by have := congrArg List.length e4; have := HN.out; simp only [List.length_append] at *; omega
    have hone' : ∀ x ∈ P' ++ A' ++ B' ++ S', IsS x.1 := fun x hx => HO.out x (by rw [← e4]; simp only [List.mem_append] at hx ⊢; rcases hx with ((h | h) | h) | h <;> simp [h])
    have hln : (P' ++ A' ++ B' ++ S').length = n := by simp only [List.length_append]; omega
    obtain ⟨X, hX⟩ : ∃ X, X = P'.length := ⟨_, rfl⟩
    have wX : IntKind.i64.wrap ((m : Int) - I') = (X : Int) := by rw [IntWalk.i64_in _ (by omega)]; omega
    rcases Nat.lt_trichotomy I' J' with hlt | heq | hgt
    · obtain ⟨D, hD⟩ : ∃ D, D + I' = J' := ⟨J' - I', by omega⟩
      obtain ⟨Y, hY⟩ : ∃ Y, Y = m + D := ⟨_, rfl⟩
      have w1 : IntKind.i64.wrap ((m : Int) + J') = (m : Int) + J' := IntWalk.i64_in _ (by omega)
      have w2 : IntKind.i64.wrap ((m : Int) + J' - I') = (Y : Int) := by rw [IntWalk.i64_in _ (by omega)]; omega
      have w3 : IntKind.i64.wrap ((J' : Int) - I') = (D : Int) := by rw [IntWalk.i64_in _ (by omega)]; omega
      have eB : B' = B'.take D ++ B'.drop D := (List.take_append_drop D B').symm
      have hSw := swapRange_any wr g n cap X Y I' f P' A' (B'.take D) (B'.drop D) S' rest l2 (by rw [List.length_drop]; omega) hX.symm (by rw [List.length_take]; omega) (by rw [List.append_assoc (P' ++ A'), ← eB]; exact r5) (by rw [List.append_assoc (P' ++ A'), ← eB]; exact hln) hc hm (by rw [List.append_assoc (P' ++ A'), ← eB]; exact hone')
      have NX := (show Hid (∀ u, Row u g 28 (vfl (P' ++ B'.drop D ++ B'.take D ++ A' ++ S') ++ rest) → ∃ P'' A'' B'' S'' : List VC, P''.length + I' = m ∧ A''.length = I' ∧ B''.length = D ∧ P'' ++ B'' ++ A'' ++ S'' = P ++ B ++ A ++ S ∧ Row u g 28 (vfl (P'' ++ A'' ++ B'' ++ S'') ++ rest)) from fun u hu => ⟨P', B'.drop D, B'.take D, A' ++ S', l1, by rw [List.length_drop]; omega, by rw [List.length_take]; omega, by rw [← e4]; exact (show P' ++ B'.take D ++ B'.drop D ++ (A' ++ S') = P' ++ B' ++ A' ++ S' by rw [List.append_assoc P', ← eB, List.append_assoc (P' ++ B')]), by simpa using hu⟩)
      have hD0 : 0 < D := by omega
      have hne : (I' : Int) ≠ J' := by omega
      have hng : ¬ ((J' : Int) < I') := by omega
      have hDJ : D < J' := by omega
      clear l1 l2 l3 e4 r5 l5 hone' hln hX hY eB hS hD
      go_wp2_with (go_at_call 80; refine hSw.mono ?_; rintro e u1 ⟨rfl, h1, k1⟩)
      go_roundw
      case rel => exact ⟨I', D, hI0, hD0, rfl, rfl, NX.out u1 h1, grown_trans hG k1 (.inl rfl)⟩
      case measure => simp [intOf]; omega
    · subst heq
      have hSw := swapRange_any wr g n cap X m I' f P' A' [] B' S' rest l2 l3 hX.symm (by simp; omega) (by simpa using r5) (by simpa using hln) hc hm (by simpa using hone')
      have NX := (show Hid (∀ u, Row u g 28 (vfl (P' ++ B' ++ [] ++ A' ++ S') ++ rest) → Row u g 28 (vfl (P ++ B ++ A ++ S) ++ rest)) from fun u hu => by rw [List.append_nil, e4] at hu; exact hu)
      clear l1 l2 l3 e4 r5 l5 hone' hln hX hS
      go_wp2_with (go_at_call 80; refine hSw.mono ?_; rintro e u1 ⟨rfl, h1, k1⟩)
      go_end0
      exact ⟨rfl, NX.out u1 h1, grown_trans hG k1 (.inl rfl)⟩
    · obtain ⟨D, hD⟩ : ∃ D, D + J' = I' := ⟨I' - J', by omega⟩
      have w3 : IntKind.i64.wrap ((I' : Int) - J') = (D : Int) := by rw [IntWalk.i64_in _ (by omega)]; omega
      have eA : A' = A'.take J' ++ A'.drop J' := (List.take_append_drop J' A').symm
      have e6 : P' ++ A'.take J' ++ A'.drop J' ++ B' ++ S' = P' ++ A' ++ B' ++ S' := by rw [List.append_assoc P', ← eA]
      have hSw := swapRange_any wr g n cap X m J' f P' (A'.take J') (A'.drop J') B' S' rest (by rw [List.length_take]; omega) l3 hX.symm (by rw [List.length_drop]; omega) (by rw [e6]; exact r5) (by rw [e6]; exact hln) hc hm (by rw [e6]; exact hone')
      have NX := (show Hid (∀ u, Row u g 28 (vfl (P' ++ B' ++ A'.drop J' ++ A'.take J' ++ S') ++ rest) → ∃ P'' A'' B'' S'' : List VC, P''.length + D = m ∧ A''.length = D ∧ B''.length = J' ∧ P'' ++ B'' ++ A'' ++ S'' = P ++ B ++ A ++ S ∧ Row u g 28 (vfl (P'' ++ A'' ++ B'' ++ S'') ++ rest)) from fun u hu => ⟨P' ++ B', A'.drop J', A'.take J', S', by rw [List.length_append]; omega, by rw [List.length_drop]; omega, by rw [List.length_take]; omega, by rw [← e4, List.append_assoc (P' ++ B'), ← eA], hu⟩)
      have hD0 : 0 < D := by omega
      have hne : (I' : Int) ≠ J' := by omega
      have hng : (J' : Int) < I' := by omega
      have hDI : D < I' := by omega
      clear l1 l2 l3 e4 r5 l5 hone' hln hX eA e6 hS hD
      go_wp2_with (go_at_call 80; refine hSw.mono ?_; rintro e u1 ⟨rfl, h1, k1⟩)
      go_roundw
      case rel => exact ⟨D, J', hD0, hJ0, rfl, rfl, NX.out u1 h1, grown_trans hG k1 (.inl rfl)⟩
      case measure => simp [intOf]; omega
end Go.Proofs.YtgpkngiakhdmhaaDoor
