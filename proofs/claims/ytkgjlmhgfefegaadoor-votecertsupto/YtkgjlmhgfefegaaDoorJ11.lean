/- Stable sorting, plain; nothing of any program. -/
import Derived.Test.YtkgjlmhgfefegaaDoorJ10
import Derived.Test.YtkgjlmhgfefegaaDoorOct
section
set_option linter.unusedVariables false
set_option linter.unusedSimpArgs false
namespace Go.Proofs.YtkgjlmhgfefegaaDoor
open Go.RowKit Oct

set_option maxRecDepth 10000 in
set_option maxHeartbeats 2000000 in
theorem rotate_any (w : World) (g n cap a m b : Nat) (f : Value) (P A B S : List VC) (rest : List Value) (ha : P.length = a) (hA : a + A.length = m) (hB : m + B.length = b) (hA0 : 0 < A.length) (hB0 : 0 < B.length) (hR : Row w g 35 (vfl (P ++ A ++ B ++ S) ++ rest)) (hn : (P ++ A ++ B ++ S).length = n) (hc : n ≤ cap) (hm : cap ≤ maxLen)
    (hone : ∀ x ∈ P ++ A ++ B ++ S, IsS x.1) :
    Calls Tryd.prog 52 #[.slice (some ⟨g, 0, none⟩) n cap, .int .i64 a, .int .i64 m, .int .i64 b, f] w fun e w' => e = .returned (.tuple #[]) ∧ Row w' g 35 (vfl (P ++ B ++ A ++ S) ++ rest) ∧ w.grownBy w' (some g) := by
  have hbn : b ≤ n := by simp only [List.length_append] at hn; omega
  have hnm : (n : Int) ≤ 9223372036854775807 := by unfold maxLen at hm; omega
  have HO := (show Hid (∀ x ∈ P ++ B ++ A ++ S, IsS x.1) from fun x hx => hone x (by simp only [List.mem_append] at hx ⊢; rcases hx with ((h | h) | h) | h <;> simp [h]))
  have HN := (show Hid (P.length + A.length + B.length + S.length = n) by show _ = _; simp only [List.length_append] at hn; exact hn)
  obtain ⟨I, hI⟩ : ∃ I, I = A.length := ⟨_, rfl⟩
  obtain ⟨J, hJ⟩ : ∃ J, J = B.length := ⟨_, rfl⟩
  have h1 : m = a + I := by omega
  have h2 : b = a + I + J := by omega
  have hi0 : 0 < I := by omega
  have hj0 : 0 < J := by omega
  have ST := (show Hid (∃ P' A' B' S' : List VC, P'.length + I = m ∧ A'.length = I ∧ B'.length = J ∧ P' ++ B' ++ A' ++ S' = P ++ B ++ A ++ S ∧ Row w g 35 (vfl (P' ++ A' ++ B' ++ S') ++ rest)) from ⟨P, A, B, S, by omega, hI.symm, hJ.symm, rfl, hR⟩)
  have wI : IntKind.i64.wrap ((m : Int) - a) = (I : Int) := by rw [IntWalk.i64_in _ (by omega)]; omega
  have wJ : IntKind.i64.wrap ((b : Int) - m) = (J : Int) := by rw [IntWalk.i64_in _ (by omega)]; omega
  have hIn : (I : Int) ≤ n := by omega
  have hJn : (J : Int) ≤ n := by omega
  have hmn : m ≤ n := by omega
  clear hI hJ h1 h2 ha hA hB hA0 hB0 hR hn hone
  go_enter Tryd.func52, Tryd.ntmps52
  go_wp2_with fail
  go_loopw [10, 11] (fun i j wr => ∃ I' J' : Nat, 0 < I' ∧ 0 < J' ∧ i = .int .i64 I' ∧ j = .int .i64 J' ∧ Hid (∃ P' A' B' S' : List VC, P'.length + I' = m ∧ A'.length = I' ∧ B'.length = J' ∧ P' ++ B' ++ A' ++ S' = P ++ B ++ A ++ S ∧ Row wr g 35 (vfl (P' ++ A' ++ B' ++ S') ++ rest)) ∧ w.grownBy wr (some g)) (fun i j _ => (intOf i).toNat + (intOf j).toNat)
  case atStart => exact ⟨I, J, hi0, hj0, rfl, rfl, ST, grown_refl _ _⟩
  case round =>
    clear ST wI wJ hIn hJn
    obtain ⟨I', J', hI0, hJ0, rfl, rfl, hS, hG⟩ := hrel
    obtain ⟨P', A', B', S', l1, l2, l3, e4, r5⟩ := hS.out
    have l5 : P'.length + J' + I' + S'.length = n := by have := congrArg List.length e4; have := HN.out; simp only [List.length_append] at *; omega
    have hone' : ∀ x ∈ P' ++ A' ++ B' ++ S', IsS x.1 := fun x hx => HO.out x (by rw [← e4]; simp only [List.mem_append] at hx ⊢; rcases hx with ((h | h) | h) | h <;> simp [h])
    have hln : (P' ++ A' ++ B' ++ S').length = n := by simp only [List.length_append]; omega
    obtain ⟨X, hX⟩ : ∃ X, X = P'.length := ⟨_, rfl⟩
    have wX : IntKind.i64.wrap ((m : Int) - I') = (X : Int) := by rw [IntWalk.i64_in _ (by omega)]; omega
    rcases Nat.lt_trichotomy I' J' with hlt | heq | hgt
    · obtain ⟨D, hD⟩ : ∃ D, D + I' = J' := ⟨J' - I', by omega⟩
      obtain ⟨Y, hY⟩ : ∃ Y, Y = m + D := ⟨_, rfl⟩
      have w1 : IntKind.i64.wrap ((m : Int) + J') = (m : Int) + J' := IntWalk.i64_in _ (by omega)
      have w2 : IntKind.i64.wrap ((m : Int) + J' - I') = (Y : Int) := by rw [IntWalk.i64_in _ (by omega)]; omega
      have w3 : IntKind.i64.wrap ((J' : Int) - I') = (D : Int) := by rw [IntWalk.i64_in _ (by omega)]; omega
      have eB : B' = B'.take D ++ B'.drop D := (List.take_append_drop D B').symm
      have hSw := swapRange_any wr g n cap X Y I' f P' A' (B'.take D) (B'.drop D) S' rest l2 (by rw [List.length_drop]; omega) hX.symm (by rw [List.length_take]; omega) (by rw [List.append_assoc (P' ++ A'), ← eB]; exact r5) (by rw [List.append_assoc (P' ++ A'), ← eB]; exact hln) hc hm (by rw [List.append_assoc (P' ++ A'), ← eB]; exact hone')
      have NX := (show Hid (∀ u, Row u g 35 (vfl (P' ++ B'.drop D ++ B'.take D ++ A' ++ S') ++ rest) → ∃ P'' A'' B'' S'' : List VC, P''.length + I' = m ∧ A''.length = I' ∧ B''.length = D ∧ P'' ++ B'' ++ A'' ++ S'' = P ++ B ++ A ++ S ∧ Row u g 35 (vfl (P'' ++ A'' ++ B'' ++ S'') ++ rest)) from fun u hu => ⟨P', B'.drop D, B'.take D, A' ++ S', l1, by rw [List.length_drop]; omega, by rw [List.length_take]; omega, by rw [← e4]; exact (show P' ++ B'.take D ++ B'.drop D ++ (A' ++ S') = P' ++ B' ++ A' ++ S' by rw [List.append_assoc P', ← eB, List.append_assoc (P' ++ B')]), by simpa using hu⟩)
      have hD0 : 0 < D := by omega
      have hne : (I' : Int) ≠ J' := by omega
      have hng : ¬ ((J' : Int) < I') := by omega
      have hDJ : D < J' := by omega
      clear l1 l2 l3 e4 r5 l5 hone' hln hX hY eB hS hD
      go_wp2_with (go_at_call 60; refine hSw.mono ?_; rintro e u1 ⟨rfl, h1, k1⟩)
      go_roundw
      case rel => exact ⟨I', D, hI0, hD0, rfl, rfl, NX.out u1 h1, grown_trans hG k1 (.inl rfl)⟩
      case measure => simp [intOf]; omega
    · subst heq
      have hSw := swapRange_any wr g n cap X m I' f P' A' [] B' S' rest l2 l3 hX.symm (by simp; omega) (by simpa using r5) (by simpa using hln) hc hm (by simpa using hone')
      have NX := (show Hid (∀ u, Row u g 35 (vfl (P' ++ B' ++ [] ++ A' ++ S') ++ rest) → Row u g 35 (vfl (P ++ B ++ A ++ S) ++ rest)) from fun u hu => by rw [List.append_nil, e4] at hu; exact hu)
      clear l1 l2 l3 e4 r5 l5 hone' hln hX hS
      go_wp2_with (go_at_call 60; refine hSw.mono ?_; rintro e u1 ⟨rfl, h1, k1⟩)
      go_end0
      exact ⟨rfl, NX.out u1 h1, grown_trans hG k1 (.inl rfl)⟩
    · obtain ⟨D, hD⟩ : ∃ D, D + J' = I' := ⟨I' - J', by omega⟩
      have w3 : IntKind.i64.wrap ((I' : Int) - J') = (D : Int) := by rw [IntWalk.i64_in _ (by omega)]; omega
      have eA : A' = A'.take J' ++ A'.drop J' := (List.take_append_drop J' A').symm
      have e6 : P' ++ A'.take J' ++ A'.drop J' ++ B' ++ S' = P' ++ A' ++ B' ++ S' := by rw [List.append_assoc P', ← eA]
      have hSw := swapRange_any wr g n cap X m J' f P' (A'.take J') (A'.drop J') B' S' rest (by rw [List.length_take]; omega) l3 hX.symm (by rw [List.length_drop]; omega) (by rw [e6]; exact r5) (by rw [e6]; exact hln) hc hm (by rw [e6]; exact hone')
      have NX := (show Hid (∀ u, Row u g 35 (vfl (P' ++ B' ++ A'.drop J' ++ A'.take J' ++ S') ++ rest) → ∃ P'' A'' B'' S'' : List VC, P''.length + D = m ∧ A''.length = D ∧ B''.length = J' ∧ P'' ++ B'' ++ A'' ++ S'' = P ++ B ++ A ++ S ∧ Row u g 35 (vfl (P'' ++ A'' ++ B'' ++ S'') ++ rest)) from fun u hu => ⟨P' ++ B', A'.drop J', A'.take J', S', by rw [List.length_append]; omega, by rw [List.length_drop]; omega, by rw [List.length_take]; omega, by rw [← e4, List.append_assoc (P' ++ B'), ← eA], hu⟩)
      have hD0 : 0 < D := by omega
      have hne : (I' : Int) ≠ J' := by omega
      have hng : (J' : Int) < I' := by omega
      have hDI : D < I' := by omega
      clear l1 l2 l3 e4 r5 l5 hone' hln hX eA e6 hS hD
      go_wp2_with (go_at_call 60; refine hSw.mono ?_; rintro e u1 ⟨rfl, h1, k1⟩)
      go_roundw
      case rel => exact ⟨D, J', hD0, hJ0, rfl, rfl, NX.out u1 h1, grown_trans hG k1 (.inl rfl)⟩
      case measure => simp [intOf]; omega
end Go.Proofs.YtkgjlmhgfefegaaDoor
end

section
set_option linter.unusedVariables false
set_option linter.unusedSimpArgs false
namespace Go.Proofs.YtkgjlmhgfefegaaDoor
open Go.RowKit Oct

def cmpI (x y : Int) : Int := if x < y then -1 else if y < x then 1 else 0
theorem cmpI_lt {x y : Int} : cmpI x y < 0 ↔ x < y := by
  unfold cmpI
  by_cases h : x < y
  · simp [h]
  · rw [if_neg h]
    split <;> simp <;> omega
theorem isNaNV_any (w : World) (x : Int) : Calls Tryd.prog 31 #[.int .i64 x] w fun e w' => e = .returned (.bool false) ∧ w' = w := by
  have hne : (x != x) = false := by simp
  go_enter Tryd.func31, Tryd.ntmps31
  go_wp2_with fail
  go_ret
  exact ⟨rfl, rfl⟩
theorem cmpIntV_any (w : World) (x y : Int) : Calls Tryd.prog 18 #[.int .i64 x, .int .i64 y] w fun e w' => e = .returned (.int .i64 (cmpI x y)) ∧ w' = w := by
  by_cases h : x < y
  · rw [cmpI, if_pos h]
    go_enter Tryd.func18, Tryd.ntmps18
    go_wp2_with (go_at_call 31; refine (isNaNV_any _ _).mono ?_; rintro e w' ⟨rfl, rfl⟩)
    go_ret
    exact ⟨rfl, rfl⟩
  by_cases h2 : y < x
  · rw [cmpI, if_neg h, if_pos h2]
    go_enter Tryd.func18, Tryd.ntmps18
    go_wp2_with (go_at_call 31; refine (isNaNV_any _ _).mono ?_; rintro e w' ⟨rfl, rfl⟩)
    go_ret
    exact ⟨rfl, rfl⟩
  · rw [cmpI, if_neg h, if_neg h2]
    go_enter Tryd.func18, Tryd.ntmps18
    go_wp2_with (go_at_call 31; refine (isNaNV_any _ _).mono ?_; rintro e w' ⟨rfl, rfl⟩)
    go_ret
    exact ⟨rfl, rfl⟩
theorem cmpV_any (w : World) (x y : VC) : Calls Tryd.prog 17 #[.agg #[.int .i64 x.2.1, x.1], .agg #[.int .i64 y.2.1, y.1]] w fun e w' => e = .returned (.int .i64 (cmpI x.2.1 y.2.1)) ∧ Below w.heap.size w w' := by
  have HC := (show Hid (∀ u, Calls Tryd.prog 18 #[.int .i64 x.2.1, .int .i64 y.2.1] u fun e w' => e = .returned (.int .i64 (cmpI x.2.1 y.2.1)) ∧ w' = u) from fun u => cmpIntV_any u _ _)
  go_enter Tryd.func17, Tryd.ntmps17
  go_wp2_with (go_at_call 18; refine (HC.out _).mono ?_; rintro e w1 ⟨rfl, rfl⟩)
  go_ret
  exact ⟨rfl, by first | exact Below.refl _ _ | exact (below_alloc _ _).trans (Below.mono (below_alloc _ _) (by simp))⟩
end Go.Proofs.YtkgjlmhgfefegaaDoor
end

section
set_option linter.unusedVariables false
set_option linter.unusedSimpArgs false
namespace Go.Proofs.YtkgjlmhgfefegaaDoor
namespace Stb
variable {α : Type} {k : α → Int}

/-- Sorted by the key. -/
def Srt (k : α → Int) (l : List α) : Prop := l.Pairwise fun x y => k x ≤ k y
/-- The same things, those of one key in the same order. -/
def Sam (k : α → Int) (l l' : List α) : Prop := l'.length = l.length ∧ ∀ c, l'.filter (fun x => decide (k x = c)) = l.filter (fun x => decide (k x = c))

theorem Sam.refl (l : List α) : Sam k l l := ⟨rfl, fun _ => rfl⟩
theorem Sam.trans {a b c : List α} (h : Sam k a b) (h' : Sam k b c) : Sam k a c := ⟨h'.1.trans h.1, fun x => (h'.2 x).trans (h.2 x)⟩
theorem Sam.app {a a' b b' : List α} (h : Sam k a a') (h' : Sam k b b') : Sam k (a ++ b) (a' ++ b') := ⟨by simp [h.1, h'.1], fun c => by rw [List.filter_append, List.filter_append, h.2 c, h'.2 c]⟩
theorem Sam.mem {a a' : List α} (h : Sam k a a') {x : α} : x ∈ a' ↔ x ∈ a := by
  have e := h.2 (k x)
  have h1 : x ∈ a' ↔ x ∈ a'.filter (fun y => decide (k y = k x)) := by simp
  have h2 : x ∈ a ↔ x ∈ a.filter (fun y => decide (k y = k x)) := by simp
  rw [h1, h2, e]
theorem Sam.swap {a b : List α} (h : ∀ x ∈ a, ∀ y ∈ b, k y < k x) : Sam k (a ++ b) (b ++ a) := by
  refine ⟨by simp [Nat.add_comm], fun c => ?_⟩
  rw [List.filter_append, List.filter_append]
  rcases Classical.em (∃ x ∈ a, k x = c) with ⟨x, hx, hc⟩ | hn
  · have e : b.filter (fun x => decide (k x = c)) = [] := by
      rw [List.filter_eq_nil_iff]
      intro y hy
      have := h x hx y hy
      simp; omega
    rw [e]; simp
  · have e : a.filter (fun x => decide (k x = c)) = [] := by
      rw [List.filter_eq_nil_iff]
      intro x hx
      simp; exact fun hc => hn ⟨x, hx, hc⟩
    rw [e]; simp
theorem Srt.app {a b : List α} (ha : Srt k a) (hb : Srt k b) (h : ∀ x ∈ a, ∀ y ∈ b, k x ≤ k y) : Srt k (a ++ b) := List.pairwise_append.2 ⟨ha, hb, h⟩
theorem Srt.l {a b : List α} (h : Srt k (a ++ b)) : Srt k a := (List.pairwise_append.1 h).1
theorem Srt.r {a b : List α} (h : Srt k (a ++ b)) : Srt k b := (List.pairwise_append.1 h).2.1
theorem Srt.le {a b : List α} (h : Srt k (a ++ b)) : ∀ x ∈ a, ∀ y ∈ b, k x ≤ k y := (List.pairwise_append.1 h).2.2
/-- Two sorted lists of the same things are one. -/
theorem uniq : ∀ {a b : List α}, Srt k a → Srt k b → Sam k a b → a = b
  | [], b, _, _, h => by have := h.1; exact (List.eq_nil_of_length_eq_zero (by simpa using this)).symm
  | x :: a, [], _, _, h => by have := h.1; simp at this
  | x :: a, y :: b, ha, hb, h => by
    have hx : ∀ z ∈ x :: a, k x ≤ k z := fun z hz => by rcases List.mem_cons.1 hz with rfl | hz; exact Int.le_refl _; exact (List.pairwise_cons.1 ha).1 z hz
    have hy : ∀ z ∈ y :: b, k y ≤ k z := fun z hz => by rcases List.mem_cons.1 hz with rfl | hz; exact Int.le_refl _; exact (List.pairwise_cons.1 hb).1 z hz
    have h1 := hx y (h.mem.1 (by simp))
    have h2 := hy x (h.mem.2 (by simp))
    have e : k x = k y := by omega
    have hf := h.2 (k x)
    rw [List.filter_cons_of_pos (by simp [e]), List.filter_cons_of_pos (by simp)] at hf
    injection hf with e1 e2
    subst e1
    have hs : Sam k a b := ⟨by have := h.1; simpa using this, fun c => by
      by_cases hc : k y = c
      · rw [← hc]; exact e2
      · have := h.2 c
        rwa [List.filter_cons_of_neg (by simpa using hc), List.filter_cons_of_neg (by simpa using hc)] at this⟩
    rw [uniq (List.pairwise_cons.1 ha).2 (List.pairwise_cons.1 hb).2 hs]
/-- One step of a merge: the middle turned, both halves merged. -/
theorem mergeStep {A1 A2 B1 B2 L R : List α} (hA : Srt k (A1 ++ A2)) (hB : Srt k (B1 ++ B2)) (h1 : ∀ x ∈ A2, ∀ y ∈ B1, k y < k x) (h2 : ∀ x ∈ A1, ∀ y ∈ B2, k x ≤ k y)
    (hL : Srt k L) (sL : Sam k (A1 ++ B1) L) (hR : Srt k R) (sR : Sam k (A2 ++ B2) R) : Srt k (L ++ R) ∧ Sam k (A1 ++ A2 ++ (B1 ++ B2)) (L ++ R) := by
  refine ⟨hL.app hR fun x hx y hy => ?_, ?_⟩
  · rcases List.mem_append.1 (sL.mem.1 hx) with hx | hx <;> rcases List.mem_append.1 (sR.mem.1 hy) with hy | hy
    · exact hA.le x hx y hy
    · exact h2 x hx y hy
    · exact Int.le_of_lt (h1 y hy x hx)
    · exact hB.le x hx y hy
  · have s1 : Sam k (A1 ++ A2 ++ (B1 ++ B2)) (A1 ++ B1 ++ (A2 ++ B2)) := by
      have := ((Sam.refl (k := k) A1).app (Sam.swap h1)).app (Sam.refl (k := k) B2)
      simpa using this
    exact s1.trans (sL.app sR)
/-- One thing put into a sorted list, from behind. -/
theorem insStep {A B : List α} {x : α} (h : Srt k (A ++ B)) (h1 : ∀ y ∈ B, k x < k y) (h2 : ∀ y ∈ A, k y ≤ k x) : Srt k (A ++ x :: B) ∧ Sam k (A ++ B ++ [x]) (A ++ x :: B) := by
  refine ⟨h.l.app (List.pairwise_cons.2 ⟨fun y hy => Int.le_of_lt (h1 y hy), h.r⟩) fun y hy z hz => ?_, ?_⟩
  · rcases List.mem_cons.1 hz with rfl | hz
    · exact h2 y hy
    · exact h.le y hy z hz
  · have s := (Sam.refl (k := k) A).app (Sam.swap (k := k) (a := B) (b := [x]) fun y hy z hz => by rw [List.mem_singleton.1 hz]; exact h1 y hy)
    simpa using s
theorem Srt.map {β : Type} {f : α → β} {k' : β → Int} (hf : ∀ x, k' (f x) = k x) {l : List α} (h : Srt k l) : Srt k' (l.map f) := List.pairwise_map.2 (h.imp fun {x y} hxy => by rw [hf, hf]; exact hxy)
theorem Sam.map {β : Type} {f : α → β} {k' : β → Int} (hf : ∀ x, k' (f x) = k x) {l l' : List α} (h : Sam k l l') : Sam k' (l.map f) (l'.map f) := ⟨by simp [h.1], fun c => by
  have e : ∀ q : List α, (q.map f).filter (fun x => decide (k' x = c)) = (q.filter (fun x => decide (k x = c))).map f := fun q => by
    rw [List.filter_map]
    congr 1
    refine List.filter_congr fun x _ => ?_
    simp [Function.comp, hf]
  rw [e, e, h.2 c]⟩
end Stb
end Go.Proofs.YtkgjlmhgfefegaaDoor
end
