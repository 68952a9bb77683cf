/- slices.Delete of one packet. -/
import Derived.Test.YtikfldigjieloaaBa0
set_option linter.unusedVariables false
set_option linter.unusedSimpArgs false
namespace Go.Proofs.Ytikfldigjieloaa
open Go.RowKit Oct Kvl

/-- The cells behind what is taken out, then the last record cleared. -/
theorem splice_delP (cur L zs : List Value) (i n : Nat) (hi : i < n) (hL : L.length = n * 3) (hc : n * 3 ≤ cur.length) (ht : cur.take (n * 3) = L) (hz : zs.length = 3) :
    (splice (splice cur (i * 3) (L.drop ((i + 1) * 3))) ((n - 1) * 3) zs).take ((n - 1) * 3) = L.take (i * 3) ++ L.drop ((i + 1) * 3) := by
  have hd : (L.drop ((i + 1) * 3)).length = (n - 1) * 3 - i * 3 := by rw [List.length_drop, hL]; omega
  have e1 : cur.take (i * 3) = L.take (i * 3) := by rw [← ht, List.take_take, Nat.min_eq_left (by omega)]
  have hl : (L.take (i * 3)).length = i * 3 := by rw [List.length_take]; omega
  have e2 : (splice cur (i * 3) (L.drop ((i + 1) * 3))).take ((n - 1) * 3) = L.take (i * 3) ++ L.drop ((i + 1) * 3) := by
    unfold splice
    rw [e1, ← List.append_assoc, List.take_append_of_le_length (by rw [List.length_append, hl, hd]; omega), List.take_of_length_le (by rw [List.length_append, hl, hd]; omega)]
  generalize splice cur (i * 3) (L.drop ((i + 1) * 3)) = C at *
  have hC : (C.take ((n - 1) * 3)).length = (n - 1) * 3 := by rw [e2, List.length_append, hl, hd]; omega
  unfold splice
  rw [List.take_append_of_le_length (by rw [hC]; omega), List.take_of_length_le (by rw [hC]; omega), e2]

set_option maxHeartbeats 1000000 in
set_option maxRecDepth 100000 in
/-- slices.Delete of one packet. -/
theorem deleteP_any (w : World) (g cap n i : Nat) (cur L : List Value) (hrow : Row w g 29 cur) (hcl : cur.length = cap * 3) (hL : L.length = n * 3) (ht : cur.take (n * 3) = L) (hi : i < n) (hroom : n ≤ cap) (hcap : cap ≤ maxLen) (hn : n ≤ 4096) (h1 : ∀ u ∈ L, u.oneCell' = true) :
    Calls Try.prog 20 #[.slice (some ⟨g, 0, none⟩) n cap, .int .i64 (i : Int), .int .i64 ((i : Int) + 1)] w fun e w' =>
      e = .returned (.slice (some ⟨g, 0, none⟩) (n - 1) cap) ∧ w.grownBy w' (some g) ∧ ∃ cur', Row w' g 29 cur' ∧ cur'.length = cap * 3 ∧ cur'.take ((n - 1) * 3) = L.take (i * 3) ++ L.drop ((i + 1) * 3) := by
  obtain ⟨i0, hi0, hz0, hzs, hzb⟩ := info_parts Try.infPk
  have hdl : (L.drop ((i + 1) * 3)).length = (n - (i + 1)) * 3 := by rw [List.length_drop, hL]; omega
  have hfit : i * 3 + (L.drop ((i + 1) * 3)).length ≤ cur.length := by omega
  have hsrc : ∀ j u, (L.drop ((i + 1) * 3))[j]? = some u → w.cell? ⟨g, (i + 1) * 3 + j, none⟩ = some u := fun j u hj => by
    refine hrow.cell ?_
    rw [List.getElem?_drop] at hj
    rw [← ht, List.getElem?_take] at hj
    split at hj
    · exact hj
    · cases hj
  have HD := (show Hid ((splice (splice cur (i * 3) (L.drop ((i + 1) * 3))) ((n - 1) * 3) [.int .i64 0, .int .i64 0, .slice none 0 0]).take ((n - 1) * 3) = L.take (i * 3) ++ L.drop ((i + 1) * 3)) from splice_delP cur L [.int .i64 0, .int .i64 0, .slice none 0 0] i n hi hL (by omega) ht rfl)
  have HO := (show Hid (∀ u ∈ L.drop ((i + 1) * 3), u.oneCell' = true) from fun u hu => h1 u (List.mem_of_mem_drop hu))
  have HR := (show Hid (Row w g 29 cur) from hrow)
  have HF := (show Hid (i * 3 + (L.drop ((i + 1) * 3)).length ≤ cur.length) from hfit)
  have HC := (show Hid (cur.length = cap * 3) from hcl)
  have HDL := (show Hid ((L.drop ((i + 1) * 3)).length = (n - (i + 1)) * 3) from hdl)
  have hne : ((i : Int) == (i : Int) + 1) = false := by simp; omega
  have hb1 : (0 : Int) ≤ (i : Int) + 1 := by omega
  have hb2 : (i : Int) ≤ (i : Int) + 1 := by omega
  have hb3 : (i : Int) + 1 ≤ (n : Int) := by omega
  have hb4 : (i : Int) ≤ (n : Int) := by omega
  have htn : ((i : Int) + 1).toNat = i + 1 := by omega
  have hcm : (cap : Int) ≤ 9223372036854775807 := by unfold maxLen at hcap; omega
  have hn0 : ¬ (n = 0) := by omega
  have hic : i ≤ cap := by omega
  obtain ⟨m, rfl⟩ : ∃ m, n = m + 1 := ⟨n - 1, by omega⟩
  have HD : Hid ((splice (splice cur (i * 3) (L.drop ((i + 1) * 3))) (m * 3) [.int .i64 0, .int .i64 0, .slice none 0 0]).take (m * 3) = L.take (i * 3) ++ L.drop ((i + 1) * 3)) := HD
  rw [Nat.add_sub_cancel]
  have him : i ≤ m := by omega
  have hem : i + (m - i) = m := by omega
  have HDL : Hid ((L.drop ((i + 1) * 3)).length = (m - i) * 3) := (show _ = _ by rw [HDL.out]; omega)
  have hmc : ¬ (cap = m) := by omega
  have hmi : (m : Int) ≤ (m : Int) + 1 := by omega
  have hmk : m ≤ m + 1 := by omega
  clear hrow hcl hL ht h1 hdl hfit
  generalize hDD : L.drop ((i + 1) * 3) = D at *
  have hS : ∃ ad : Addr, (if cap = i + 1 then some (⟨g, 0, none⟩ : Addr) else some ⟨g, (i + 1) * 3, none⟩) = some ad ∧ Hid (∀ j u, D[j]? = some u → w.drew.cell? (ad.add j) = some u) := by
    by_cases h : cap = i + 1
    · refine ⟨⟨g, 0, none⟩, by simp [h], fun j u hj => ?_⟩
      have := HDL.out
      rw [List.eq_nil_of_length_eq_zero (show D.length = 0 by omega)] at hj
      simp at hj
    · refine ⟨⟨g, (i + 1) * 3, none⟩, by simp [h], fun j u hj => ?_⟩
      rw [Addr.add_mid]
      exact hsrc j u hj
  obtain ⟨ad, had, HS⟩ := hS
  clear hsrc
  go_enter Try.func20, Try.ntmps20
  go_wp2_with fail
  by_cases hci : cap = i + 1
  · rw [if_pos hci] at had
    injection had with had
    subst had
    subst hci
    go_region_law ((refine step_app_room (by rfl) _ _ _ (by rfl) 29 i0 3 Try.underlying35 hi0 hzs g i (i + 1) (by simp [Act.eval, Act.put]) cur HR.out ⟨g, 0, none⟩ (m - i) 0 (by simp [Act.eval, Act.put]; omega) D HDL.out HS.out HO.out (by omega) HF.out ?_; intro w2 hr2 hg2))
    have HG := (show Hid (w.grownBy w2 (some g)) from grown_drew hg2)
    have HF2 := (show Hid (m * 3 + 3 ≤ (splice cur (i * 3) D).length) by
      show m * 3 + 3 ≤ _
      rw [length_splice _ _ _ HF.out, HC.out]; omega)
    clear hg2
    go_wp2_with (refine wl_clear1 rfl _ _ rfl 29 i0 _ [.int .i64 0, .int .i64 0, .slice none 0 0] Try.underlying35 hi0 hz0 rfl (by kernel_rfl) (m + 1 - m) (i + 1 - m) g (m * 3) (by omega) (by simp [Act.eval]) _ _ hr2.out HF2.out (onP3 rfl) ?_; intro w3 hr3 hg3)
    go_ret
    refine ⟨rfl, grown_trans HG.out hg3 (.inl rfl), _, hr3.out, ?_, HD.out⟩
    rw [length_splice _ _ _ HF2.out, length_splice _ _ _ HF.out, HC.out]
  · rw [if_neg hci] at had
    injection had with had
    subst had
    go_region_law ((refine step_app_room (by rfl) _ _ _ (by rfl) 29 i0 3 Try.underlying35 hi0 hzs g i cap (by simp [Act.eval, Act.put]) cur HR.out ⟨g, (i + 1) * 3, none⟩ (m - i) (cap - (i + 1)) (by simp [Act.eval, Act.put, hci]) D HDL.out HS.out HO.out (by omega) HF.out ?_; intro w2 hr2 hg2))
    have HG := (show Hid (w.grownBy w2 (some g)) from grown_drew hg2)
    have HF2 := (show Hid (m * 3 + 3 ≤ (splice cur (i * 3) D).length) by
      show m * 3 + 3 ≤ _
      rw [length_splice _ _ _ HF.out, HC.out]; omega)
    clear hg2
    go_wp2_with (refine wl_clear1 rfl _ _ rfl 29 i0 _ [.int .i64 0, .int .i64 0, .slice none 0 0] Try.underlying35 hi0 hz0 rfl (by kernel_rfl) (m + 1 - m) (cap - m) g (m * 3) (by omega) (by simp [Act.eval]) _ _ hr2.out HF2.out (onP3 rfl) ?_; intro w3 hr3 hg3)
    go_ret
    refine ⟨rfl, grown_trans HG.out hg3 (.inl rfl), _, hr3.out, ?_, HD.out⟩
    rw [length_splice _ _ _ HF2.out, length_splice _ _ _ HF.out, HC.out]
end Go.Proofs.Ytikfldigjieloaa
