/- catenarylaw11.DiskWhole: its walk. -/
import Derived.Test.YtnalakdnjjmaaaaDAl
set_option linter.unusedVariables false
set_option linter.unusedSimpArgs false
namespace Go.Proofs.Ytnalakdnjjmaaaa
open Go.RowKit Oct

theorem nw_great : nwD 4194304 = ⟨[], 4194304, false, false, 0, 0⟩ := by kernel_rfl
theorem ap_new {x : List Int} (h : x.length ≤ 1000000) : apD (nwD 4194304) x = (⟨x, 4194304, false, false, 0, 0⟩, 0) := by
  rw [nw_great]
  have hn : noD (⟨[], 4194304, false, false, 0, 0⟩ : PDk) ((([] : List Int).length : Int) + (x.length : Int)) = 0 := by
    unfold noD
    rw [if_neg (by simp), if_neg (by simp only [List.length_nil]; omega)]
  unfold apD
  rw [if_neg (fun h => h hn), if_neg (by simp [brD])]
  simp [coD]
theorem re_yes {x y : List Int} {a t : Int} (h : y.length ≤ 1000000) (ha : a ≤ 0) : reD (bkD ⟨x, 4194304, false, false, 0, 0⟩ a t) y = (⟨x, 4194304, true, false, 0, 0⟩, 115) := by
  unfold bkD
  rw [Int.max_eq_left ha]
  have hn : noD (⟨x, 4194304, false, true, 0, t⟩ : PDk) (y.length : Int) = 0 := by
    unfold noD
    rw [if_neg (by simp), if_neg (by simp only; omega)]
  unfold reD
  rw [if_neg (fun h => h hn), if_pos (by simp [brD])]
  rfl
theorem re_not {x y : List Int} {a t : Int} (h : y.length ≤ 1000000) (ha : 0 < a) : reD (bkD ⟨x, 4194304, false, false, 0, 0⟩ a t) y = (⟨y, 4194304, false, true, a - 1, t⟩, 0) := by
  unfold bkD
  rw [Int.max_eq_right (by omega)]
  have hn : noD (⟨x, 4194304, false, true, a, t⟩ : PDk) (y.length : Int) = 0 := by
    unfold noD
    rw [if_neg (by simp), if_neg (by simp only; omega)]
  have ha0 : a ≠ 0 := by omega
  unfold reD
  rw [if_neg (fun h => h hn), if_neg (by simp [brD]; omega)]
  simp [coD, ha0]

set_option maxRecDepth 10000 in
set_option maxHeartbeats 1000000 in
theorem wholeD_any (w : World) (u v : Value) (x y : List Int) (a : Int) (hu : Rd w u x) (hv : Rd w v y) (hx : x.length ≤ 140737488351232) (hy : y.length ≤ 140737488351232) (ha : a ≤ 9223372036854775807) :
    Calls Try.prog 6 #[u, v, .int .i64 a] w fun e w' => e = .returned (.bool true) ∧ Below w.heap.size w w' := by
  have le := Nat.le_refl w.heap.size
  have huA := hu
  have hvA := hv
  obtain ⟨au, cu, rfl, hcu⟩ := hu.form
  obtain ⟨av, cv, rfl, hcv⟩ := hv.form
  clear hu hv
  obtain ⟨X, hX⟩ : ∃ X, X = x.length := ⟨_, rfl⟩
  obtain ⟨Y, hY⟩ : ∃ Y, Y = y.length := ⟨_, rfl⟩
  rw [← hX] at huA ⊢
  rw [← hY] at hvA ⊢
  have HX := (show Hid (x.length = X) from hX.symm)
  have HY := (show Hid (y.length = Y) from hY.symm)
  have hXb : (X : Int) ≤ 140737488351232 := by omega
  have hYb : (Y : Int) ≤ 140737488351232 := by omega
  clear hX hY hx hy hcu hcv
  by_cases h1 : (1000000 : Int) < X
  · go_enter Try.func6, Try.ntmps6
    go_wp2_with (go_at_call 8; refine (diskAlive_any w).mono ?_; rintro e w1 ⟨rfl, hb1⟩)
    go_ret
    exact ⟨rfl, hb1⟩
  by_cases h2 : (1000000 : Int) < Y
  · go_enter Try.func6, Try.ntmps6
    go_wp2_with (go_at_call 8; refine (diskAlive_any w).mono ?_; rintro e w1 ⟨rfl, hb1⟩)
    go_ret
    exact ⟨rfl, hb1⟩
  have HX1 := (show Hid (x.length ≤ 1000000) by show _ ≤ _; have := HX.out; omega)
  have HY1 := (show Hid (y.length ≤ 1000000) by show _ ≤ _; have := HY.out; omega)
  go_enter Try.func6, Try.ntmps6
  go_wp2_with fail
  refine (diskAlive_any w).mono ?_
  rintro e w1 ⟨rfl, hB1⟩
  go_wp2_with fail
  refine (newD_any w1 4194304).mono ?_
  rintro e w2 ⟨b, rfl, hb, hd2, hb2⟩
  have hB2 := below_and hB1 le hb2
  have hbw : w.heap.size ≤ b := Nat.le_trans hB1.size hb
  have hu2 := huA.below hB2
  go_wp2_with (at_builtin; refine app_copy_w rfl _ _ rfl rfl _ x rfl hu2 (Nat.le_trans HX1.out (by decide)) ?_; intro o3 w3 hown3 hfr3 hb3)
  have hB3 := below_and hB2 le hb3
  have hd3 := hd2.below hb3
  refine (appendD_any w3 b _ o3 _ x hd3 (hown3.rd huA.1) (fun _ => hd3.nu hown3) (fun _ k hk => absurd hk nil_ne) (Nat.le_trans HX1.out (by decide))).mono ?_
  rintro e w4 ⟨v4, rfl, hd4, hg4, hs4⟩
  rw [ap_new HX1.out] at hd4 ⊢
  have hB4 : Below w.heap.size w w4 := hB3.trans (hg4.below hB3.size hbw (Fr.nil _))
  have hf4 : Fr w.heap.size v4 := by rcases hs4 with h | h; exact fun k hk => absurd (h ▸ hk) nil_ne; exact h.mono hB3.size
  clear hd2 hb2 hd3 hb3 hB3 hB2 hB1 hu2 hown3 hfr3 hg4 hs4
  go_wp2_with fail
  refine (break_any w4 b _ _ _ _ hd4 ha).mono ?_
  rintro e w5 ⟨rfl, hd5, hg5⟩
  have hB5 : Below w.heap.size w w5 := hB4.trans (grown_below hg5 hB4.size (fun k hk => by cases hk; exact hbw))
  have hv5 := hvA.below hB5
  generalize (Y : Int).tdiv 2 = tt at hd5 ⊢
  clear hd4 hg5 hB4
  go_wp2_with (at_builtin; refine app_copy rfl _ _ rfl rfl _ y rfl hv5 (Nat.le_trans HY1.out (by decide)) ?_; intro o6 w6 hown6 hfr6 hb6)
  have hB6 := below_and hB5 le hb6
  have hd6 := hd5.below hb6
  refine (replaceD_any w6 b _ o6 _ y hd6 (hown6.rd hvA.1) (fun _ => hd6.nu hown6) (Nat.le_trans HY1.out (by decide))).mono ?_
  rintro e w7 ⟨v7, rfl, hd7, hg7, hs7⟩
  have hB7 : Below w.heap.size w w7 := hB6.trans (hg7.below hB6.size hbw hf4)
  clear hd5 hb6 hB5 hv5 hown6 hfr6 hg7 hs7 hd6
  by_cases hp : 0 < a
  · rw [re_not HY1.out hp] at hd7 ⊢
    go_wp2_with fail
    refine (bytesD_any w7 b _ _ hd7).mono ?_
    rintro e w8 ⟨v8, rfl, ho8, hf8, hb8⟩
    have hB8 := below_and hB7 le hb8
    go_wp2_with (go_at_call 21; refine (same_any w8 _ _ _ _ (ho8.rd hvA.1) (hvA.below hB8)).mono ?_; rintro e w8 ⟨rfl, rfl⟩)
    go_ret
    exact ⟨rfl, hB8⟩
  · rw [re_yes HY1.out (by omega)] at hd7 ⊢
    have hp' : a ≤ 0 := by omega
    go_wp2_with fail
    refine (dead_any w7 b _ _ hd7).mono ?_
    rintro e w7 ⟨rfl, rfl⟩
    go_wp2_with fail
    refine (bytesD_any w7 b _ _ hd7).mono ?_
    rintro e w8 ⟨v8, rfl, ho8, hf8, hb8⟩
    have hB8 := below_and hB7 le hb8
    go_wp2_with (go_at_call 21; refine (same_any w8 _ _ _ _ (ho8.rd huA.1) (huA.below hB8)).mono ?_; rintro e w8 ⟨rfl, rfl⟩)
    go_ret
    exact ⟨rfl, hB8⟩
end Go.Proofs.Ytnalakdnjjmaaaa
