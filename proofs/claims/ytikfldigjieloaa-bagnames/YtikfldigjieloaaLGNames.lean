/- catenarylaw13.BagNames: its walk. -/
import Derived.Test.YtikfldigjieloaaBa3
import Derived.Deep.CutBlock
set_option linter.unusedVariables false
set_option linter.unusedSimpArgs false
namespace Go.Proofs.Ytikfldigjieloaa
open Go.RowKit Oct Kvl

def nmL (n : Nat) : List PPk := (List.range n).map fun (j : Nat) => ((j : Int), 0, [])
theorem nmL_succ (n : Nat) : nmL n ++ [((n : Int), 0, [])] = nmL (n + 1) := by unfold nmL; rw [List.range_succ, List.map_append]; rfl
theorem nmL_len (n : Nat) : (nmL n).length = n := by unfold nmL; simp
theorem nmL_c0 : (cpP (nmL 4096) 0).2 = 133 := by
  have h := cpP_ok (ys := nmL 4096) (n := 0) (by rw [nmL_len]; decide)
  rw [show ((0 : Nat) : Int) = 0 from rfl] at h
  rw [h, ptP_full (by rw [nmL_len]; exact Nat.le_refl _)]
theorem nmL_c1 : (cpP (nmL 4096) 4096).2 = 132 := by
  have h : hasP (nmL 4096) 4096 = false := by unfold hasP; rw [nmL_len]; decide
  unfold cpP
  rw [h]
  rfl
theorem nmL_at : atP (nmL 4096) 4095 = ((4095, 0, []), 0) := by
  have h : hasP (nmL 4096) 4095 = true := by unfold hasP; rw [nmL_len]; decide
  have hx : (nmL 4096).getD 4095 pk0 = (4095, 0, []) := by
    unfold nmL
    rw [List.getD, List.getElem?_map, List.getElem?_range (show 4095 < 4096 by decide)]
    rfl
  unfold atP
  rw [h, if_pos rfl, show (4095 : Int).toNat = 4095 from rfl, hx]
set_option maxRecDepth 10000 in
set_option maxHeartbeats 1000000 in
theorem bagNames_any (w : World) : Calls Try.prog 3 #[] w fun e w' => e = .returned (.bool true) ∧ Below w.heap.size w w' := by
  have le := Nat.le_refl w.heap.size
  have HP := (show Hid (∀ u b (n : Nat), n < 4096 → Bx w u b (nmL n) → Calls Try.prog 9 #[.pointer (some ⟨b, 0, none⟩), .agg ([.int .i64 (n : Int), .int .i64 0, .slice none 0 0] : List Value).toArray] u fun e w' => e = .returned (.int .i64 0) ∧ Bx w w' b (nmL (n + 1))) from fun u b n hn h => (putX_ok w u b _ h (by rw [nmL_len]; exact hn) _ ((n : Int), 0, []) (rpk_lit u n 0) szT_nil).mono fun e w' h => by
    rw [nmL_succ] at h
    exact ⟨h.1, h.2.1⟩)
  have HA := (show Hid (∀ u b, Bx w u b (nmL 4096) → Calls Try.prog 10 #[.pointer (some ⟨b, 0, none⟩), .int .i64 4095] u fun e w' => ∃ s, e = .returned (.tuple #[.agg ([.int .i64 4095, .int .i64 0, s] : List Value).toArray, .int .i64 0]) ∧ s.oneCell' = true ∧ Bx w w' b (nmL 4096)) from fun u b h => (atX_any w u b _ h 4095).mono fun e w' h => by
    rw [nmL_at] at h
    obtain ⟨s, h1, h2, h3, h4⟩ := h
    exact ⟨s, h1, h2.one, h4⟩)
  have HQ := (show Hid (∀ u b, Bx w u b (nmL 4096) → Calls Try.prog 9 #[.pointer (some ⟨b, 0, none⟩), .agg ([.int .i64 0, .int .i64 0, .slice none 0 0] : List Value).toArray] u fun e w' => e = .returned (.int .i64 133) ∧ Below u.heap.size u w') from fun u b h => putX_no w u b _ h (by rw [nmL_len]; exact Nat.le_refl _) _ (0, 0, []) (rpk_lit u 0 0) szT_nil)
  have HC := (show Hid (∀ u b (i c : Int), Bx w u b (nmL 4096) → (cpP (nmL 4096) i).2 = c → c ≠ 0 → Calls Try.prog 11 #[.pointer (some ⟨b, 0, none⟩), .int .i64 i] u fun e w' => e = .returned (.int .i64 c) ∧ Below u.heap.size u w') from fun u b i c h h1 h2 => copyX_no w u b _ h i c h1 h2)
  have HL := (show Hid (∀ u b, Bx w u b (nmL 4096) → Calls Try.prog 12 #[.pointer (some ⟨b, 0, none⟩)] u fun e w' => e = .returned (.int .i64 4096) ∧ w' = u) from fun u b h => by
    have := lenX_any w u b _ h
    rwa [nmL_len] at this)
  have HC0 := (show Hid ((cpP (nmL 4096) 0).2 = 133) from nmL_c0)
  have HC1 := (show Hid ((cpP (nmL 4096) 4096).2 = 132) from nmL_c1)
  go_enter Try.func3, Try.ntmps3
  go_upto_region 3 with (go_at_call 7; refine (bagAlive_any w).mono ?_; rintro e w1 ⟨rfl, hb1⟩)
  go_upto_region 4 with (go_at_call 8; refine (newX_any w w1 hb1).mono ?_; rintro e w2 ⟨b, rfl, hb2⟩)
  clear hb1
  have hb2 : Bx w w2 b (nmL 0) := hb2
  go_wp2_with fail
  go_loopw [2] (fun i wr => ∃ k : Nat, k ≤ 4096 ∧ i = .int .i64 k ∧ Bx w wr b (nmL k)) (fun i _ => 4096 - (intOf i).toNat)
  case atStart => exact ⟨0, by omega, rfl, hb2⟩
  case round =>
    clear hb2
    obtain ⟨k, hk, rfl, hB⟩ := hrel
    by_cases hkl : k < 4096
    · have hki : (k : Int) < 4096 := by omega
      have hP := HP.out wr b k hkl hB
      clear hB
      go_wp2_with (go_at_call 9; refine hP.mono ?_; rintro e w3 ⟨rfl, hb3⟩)
      go_roundw
      case rel => exact ⟨k + 1, by omega, by go_num, hb3⟩
      case measure => simp [intOf]; omega
    · obtain rfl : k = 4096 := by omega
      have hki : decide (((4096 : Nat) : Int) < 4096) = false := by decide
      go_upto_region 10 with (first
        | (go_at_call 10; refine (HA.out wr b hB).mono ?_; rintro e w5 ⟨s5, rfl, o5, hb5⟩; have rn := Row.new w5 29 [.int .i64 0, .int .i64 0, .slice none 0 0])
        | (refine wl_store rfl _ _ _ rfl w5.heap.size [.int .i64 4095, .int .i64 0, s5] rfl rfl _ _ rn rfl (by kernel_rfl) (onP3 o5) ?_; intro w6 hr6 hg6))
      have hb56 : Below w5.heap.size w5 w6 := (below_alloc w5 (.cells ([.int .i64 0, .int .i64 0, .slice none 0 0] : List Value).toArray 29)).trans (grown_below hg6 (by simp) (fun k hk => by cases hk; exact Nat.le_refl _))
      have hb6 := hb5.below hb56
      have rb := hr6.out
      clear rn hg6 hr6 hb56 hb5 hB
      go_wp2_with (first
        | (go_at_call 9; refine (HQ.out w6 b hb6).mono ?_; rintro e w7 ⟨rfl, hb7⟩; have hb6 := hb6.below hb7; have rb := rb.below hb7)
        | (go_at_call 11; refine (HC.out w7 b _ _ hb6 (by first | (with_reducible exact HC0.out) | (with_reducible exact HC1.out)) (by decide)).mono ?_; rintro e w7 ⟨rfl, hb7⟩; have hb6 := hb6.below hb7; have rb := rb.below hb7; have c0 := rb.cell (j := 0) rfl)
        | (go_at_call 12; refine (HL.out w7 b hb6).mono ?_; rintro e w7 ⟨rfl, rfl⟩))
      go_ret
      exact ⟨rfl, hb6.bel⟩
end Go.Proofs.Ytikfldigjieloaa
