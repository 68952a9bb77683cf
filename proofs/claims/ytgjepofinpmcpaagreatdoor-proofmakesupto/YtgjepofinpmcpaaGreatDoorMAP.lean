/- The document's writing: numbers, texts. -/
import Derived.Test.YtgjepofinpmcpaaGreatDoorMAK
import Derived.Test.YtgjepofinpmcpaaGreatDoorMAM
import Derived.Deep.RegionLaw
set_option linter.unusedVariables false
namespace Go.Proofs.YtgjepofinpmcpaaGreatDoor
open Go.RowKit Oct
def zCb {α : Type} (c : Cdc α) (x : α) (w : World) (sv : Value) (bad : Bool) (L : List Int) (e : Ending) (w' : World) : Prop :=
  ∃ sv', e = .returned (.agg #[sv', .bool (bad || !c.ok x)]) ∧ App w 5 sv w' sv' (bc (L ++ c.wr x))
theorem App.box {w w4 : World} {sv v4 : Value} {X : List Value} (h : App w 5 sv w4 v4 X) {b : Nat} (hb : w.heap.size ≤ b) {t : TypeId} {xs : List Value} (rr : Row w4 b t xs) (u0 u1 : Value) (ht : t ≠ 5 := by decide) :
    App w 5 sv ((w4.setCell ⟨b, 0, none⟩ u0).setCell ⟨b, 1, none⟩ u1) v4 X := by
  have hn := zA6 rr h.own ht
  have hg := zA2 (zAd w4 b 0 u0) (zAd (w4.setCell ⟨b, 0, none⟩ u0) b 1 u1) (.inl rfl)
  exact ⟨h.own.grown hg (fun k hk => by cases hk; exact hn), zA2 h.grown hg (.inr fun k hk => by cases hk; exact hb), h.spot⟩
theorem zBl (n : Int) : (zCm n).length ≤ 10 := by
  unfold zCm
  split
  · exact (zB7 n).2
  · simp
set_option maxRecDepth 10000 in
set_option maxHeartbeats 2000000 in
theorem zAq (w : World) (sv : Value) (bad : Bool) (L : List Int) (n : Int) (hown : Own w 5 sv (bc L)) (hl : L.length ≤ 140737488355300) :
    Calls Tryz.prog 59 #[.agg #[sv, .bool bad], .int .i64 n] w (zCb cN n w sv bad L) := by
  obtain ⟨w2, hw2⟩ : ∃ w2, w2 = (w.alloc (.cells #[sv, .bool bad] 109)).alloc (.cells #[.slice none 0 0, .bool false] 109) := ⟨_, rfl⟩
  have ra : Row w2 w.heap.size 109 [sv, .bool bad] := by rw [hw2]; exact zA4 (Row.new w _ _) _
  have rr : Row w2 (w.heap.size + 1) 109 [.slice none 0 0, .bool false] := by
    rw [hw2]
    have := Row.new (w.alloc (.cells #[sv, .bool bad] 109)) 109 [.slice none 0 0, .bool false]
    simpa using this
  have hB : Below w.heap.size w w2 := by rw [hw2]; exact ((Below.refl _ w).alloc zN _).alloc (by simp) _
  have hI := zDr w2 n
  go_enter Tryz.func59, Tryz.ntmps59
  go_upto_region 1 with fail
  rw [← hw2]
  clear hw2
  go_wp2_with fail
  refine hI.mono ?_
  rintro e w3 ⟨v3, rfl, hown3, hfr3, hb3⟩
  have ra3 := ra.below hb3
  have c0 := ra3.cell (j := 0) rfl
  have c1 := ra3.cell (j := 1) rfl
  have hB3 := zA1 hB zN hb3
  have hoL := hown.below hB3
  clear hI
  have rr3 := rr.below hb3
  have hrd3 := hown3.rdv
  have hne1 := zA6 ra3 hoL (by decide)
  have hne2 := zA6 rr3 hoL (by decide)
  have KC := (show Hid (w3.drew.cell? ⟨w.heap.size, 0, none⟩ = some sv ∧ w3.drew.cell? ⟨w.heap.size, 1, none⟩ = some (.bool bad)) from ⟨c0, c1⟩)
  have KR := (show Hid (Row w3.drew (w.heap.size + 1) 109 [.slice none 0 0, .bool false]) from rr3)
  have HL := (show Hid (L.length + (zCm n).length ≤ 140737488355328) by show _ ≤ _; have := zBl n; omega)
  have hE : (zRd n != 0) = !okI n := by unfold zRd; cases okI n <;> rfl
  have hB3d : Below w.heap.size w w3.drew := hB3.trans ⟨rfl, rfl, rfl, zN, fun _ _ => rfl⟩
  clear ra rr ra3 hown hown3 hfr3 hb3 hl
  generalize zRd n = E at *
  go_wp2_with fail
  cases bad with
  | false =>
    go_region_held3 (fun u => u.cell? ⟨w.heap.size, 0, none⟩ = some sv ∧ u.cell? ⟨w.heap.size, 1, none⟩ = some (.bool false))
      (first | exact hS4 | go_keep)
      (first
        | (refine zDq (by rfl) _ _ (by rfl) sv L (by rfl) hoL.drew v3 (zCm n) (by rfl) hrd3.drew HL.out ?_; intro v4 w4 happ4; obtain ⟨ao4, n4, c4, rfl⟩ := zAg happ4.own; have hS4 : w4.cell? ⟨w.heap.size, 0, none⟩ = some sv ∧ w4.cell? ⟨w.heap.size, 1, none⟩ = some (.bool false) := ⟨zAt happ4.grown KC.out.1 hne1, zAt happ4.grown KC.out.2 hne1⟩; have rr4 := KR.out.grown happ4.grown hne2; have d0 := rr4.cell (j := 0) rfl; have d1 := rr4.cell (j := 1) rfl; have z0 := rr4.frozen 0; have z1 := rr4.frozen 1))
    have hap := (App.pre hB3d happ4)
    have ho := App.box hap (Nat.le_succ _) rr4 (.slice ao4 n4 c4) (.bool (!okI n))
    have hr := (rr4.set 0 (.slice ao4 n4 c4)).set 1 (.bool (!okI n))
    go_wp2_with fail
    refine bodyPost_ret (v := .agg ([.slice ao4 n4 c4, (.bool (!okI n))] : List Value).toArray) (results_cell_row rfl _ _ (w.heap.size + 1) _ _ (0, 0) _ (by rfl) hr Tryz.underlying109 rfl (by kernel_rfl)) rfl ?_
    exact ⟨_, rfl, ho⟩
  | true =>
    first
    | (go_region_law
      (first
        | (refine zDq (by rfl) _ _ (by rfl) sv L (by rfl) hoL.drew v3 (zCm n) (by rfl) hrd3.drew HL.out ?_; intro v4 w4 happ4; obtain ⟨ao4, n4, c4, rfl⟩ := zAg happ4.own; have hS4 : w4.cell? ⟨w.heap.size, 0, none⟩ = some sv ∧ w4.cell? ⟨w.heap.size, 1, none⟩ = some (.bool true) := ⟨zAt happ4.grown KC.out.1 hne1, zAt happ4.grown KC.out.2 hne1⟩; have rr4 := KR.out.grown happ4.grown hne2; have d0 := rr4.cell (j := 0) rfl; have d1 := rr4.cell (j := 1) rfl; have z0 := rr4.frozen 0; have z1 := rr4.frozen 1)))
    | fail
    all_goals (
      have hap := (App.pre hB3d happ4)
      have ho := App.box hap (Nat.le_succ _) rr4 (.slice ao4 n4 c4) (.bool true)
      have hr := (rr4.set 0 (.slice ao4 n4 c4)).set 1 (.bool true)
      go_wp2_with fail
      refine bodyPost_ret (v := .agg ([.slice ao4 n4 c4, (.bool true)] : List Value).toArray) (results_cell_row rfl _ _ (w.heap.size + 1) _ _ (0, 0) _ (by rfl) hr Tryz.underlying109 rfl (by kernel_rfl)) rfl ?_
      exact ⟨_, rfl, ho⟩)
set_option maxRecDepth 10000 in
set_option maxHeartbeats 2000000 in
theorem zC1 (w : World) (sv : Value) (bad : Bool) (L : List Int) (p : Value) (t : List Int) (hown : Own w 5 sv (bc L)) (hp : Rd w p t) (hl : L.length ≤ 140730000000000) (ht : t.length ≤ 2147483647) :
    Calls Tryz.prog 102 #[.agg #[sv, .bool bad], p] w (zCb cT t w sv bad L) := by
  obtain ⟨ap, cp, rfl, hcp⟩ := hp.2.form
  rw [zAn] at hp ⊢
  obtain ⟨w2, hw2⟩ : ∃ w2, w2 = (w.alloc (.cells #[sv, .bool bad] 109)).alloc (.cells #[.slice none 0 0, .bool false] 109) := ⟨_, rfl⟩
  have ra : Row w2 w.heap.size 109 [sv, .bool bad] := by rw [hw2]; exact zA4 (Row.new w _ _) _
  have rr : Row w2 (w.heap.size + 1) 109 [.slice none 0 0, .bool false] := by
    rw [hw2]
    have := Row.new (w.alloc (.cells #[sv, .bool bad] 109)) 109 [.slice none 0 0, .bool false]
    simpa using this
  have hB : Below w.heap.size w w2 := by rw [hw2]; exact ((Below.refl _ w).alloc zN _).alloc (by simp) _
  have c0 := ra.cell (j := 0) rfl
  have c1 := ra.cell (j := 1) rfl
  have hdw : Below w2.heap.size w2 w2.drew := ⟨rfl, rfl, rfl, zN, fun _ _ => rfl⟩
  have HI := (show Hid (∀ _ : Unit, _) from fun _ => zDf w2.drew _ t (hp.below (hB.trans (hdw.mono hB.size))) ht)
  have SK := (show Hid (∀ u, Below w2.heap.size w2 u → u.cell? ⟨w.heap.size, 0, none⟩ = some sv ∧ u.cell? ⟨w.heap.size, 1, none⟩ = some (.bool bad)) from fun u hu => ⟨(ra.below hu).cell (j := 0) rfl, (ra.below hu).cell (j := 1) rfl⟩)
  have hoL := hown.below hB
  have hne1 := zA6 ra hoL (by decide)
  have hne2 := zA6 rr hoL (by decide)
  have HL := (show Hid (L.length + (enc t.length ++ t).length ≤ 140737488355328) by show _ ≤ _; have := zB7 (t.length : Int); have h9 : (enc t.length ++ t).length = (enc t.length).length + t.length := List.length_append; omega)
  have hE : decide ((65536 : Int) < (t.length : Int)) = !(cT.ok t) := by
    show _ = !decide (t.length ≤ 65536)
    by_cases h : t.length ≤ 65536
    · simp [h]; omega
    · simp [h]; omega
  go_enter Tryz.func102, Tryz.ntmps102
  go_upto_region 1 with fail
  rw [← hw2]
  clear hw2 hown hp hl ht
  go_wp2_with fail
  cases bad with
  | false =>
    go_region_held3 (fun u => u.cell? ⟨w.heap.size, 0, none⟩ = some sv ∧ u.cell? ⟨w.heap.size, 1, none⟩ = some (.bool false))
      (first | exact hS4 | exact SK.out _ (by assumption) | go_keep)
      (first
        | (go_at_call 51; refine (HI.out ()).mono ?_; rintro e w3 ⟨v3, rfl, hown3, hfr3, hb3⟩; have hb3' : Below w2.heap.size w2 w3 := hdw.trans hb3; have hoL3 := hoL.below hb3'; have KC := (show Hid (w3.cell? ⟨w.heap.size, 0, none⟩ = some sv ∧ w3.cell? ⟨w.heap.size, 1, none⟩ = some (.bool false)) from SK.out w3 hb3'); have KR := (show Hid (Row w3 (w.heap.size + 1) 109 [.slice none 0 0, .bool false]) from rr.below hb3'); have hB3d := zA1 hB zN hb3'; clear HI)
        | (refine zDq (by rfl) _ _ (by rfl) sv L (by rfl) hoL3 v3 (enc t.length ++ t) (by rfl) hown3.rdv HL.out ?_; intro v4 w4 happ4; obtain ⟨ao4, n4, c4, rfl⟩ := zAg happ4.own; have hS4 : w4.cell? ⟨w.heap.size, 0, none⟩ = some sv ∧ w4.cell? ⟨w.heap.size, 1, none⟩ = some (.bool false) := ⟨zAt happ4.grown KC.out.1 hne1, zAt happ4.grown KC.out.2 hne1⟩; have rr4 := KR.out.grown happ4.grown hne2; have d0 := rr4.cell (j := 0) rfl; have d1 := rr4.cell (j := 1) rfl; have z0 := rr4.frozen 0; have z1 := rr4.frozen 1))
    have hap := (App.pre hB3d happ4)
    have ho := App.box hap (Nat.le_succ _) rr4 (.slice ao4 n4 c4) (.bool (!cT.ok t))
    have hr := (rr4.set 0 (.slice ao4 n4 c4)).set 1 (.bool (!cT.ok t))
    go_wp2_with fail
    refine bodyPost_ret (v := .agg ([.slice ao4 n4 c4, (.bool (!cT.ok t))] : List Value).toArray) (results_cell_row rfl _ _ (w.heap.size + 1) _ _ (0, 0) _ (by rfl) hr Tryz.underlying109 rfl (by kernel_rfl)) rfl ?_
    exact ⟨_, rfl, ho⟩
  | true =>
    first
    | (go_region_law
      (first
        | (refine zDq (by rfl) _ _ (by rfl) sv L (by rfl) hoL3 v3 (enc t.length ++ t) (by rfl) hown3.rdv HL.out ?_; intro v4 w4 happ4; obtain ⟨ao4, n4, c4, rfl⟩ := zAg happ4.own; have hS4 : w4.cell? ⟨w.heap.size, 0, none⟩ = some sv ∧ w4.cell? ⟨w.heap.size, 1, none⟩ = some (.bool true) := ⟨zAt happ4.grown KC.out.1 hne1, zAt happ4.grown KC.out.2 hne1⟩; have rr4 := KR.out.grown happ4.grown hne2; have d0 := rr4.cell (j := 0) rfl; have d1 := rr4.cell (j := 1) rfl; have z0 := rr4.frozen 0; have z1 := rr4.frozen 1)
        | (go_simp; go_at_call 51; refine (HI.out ()).mono ?_; rintro e w3 ⟨v3, rfl, hown3, hfr3, hb3⟩; have hb3' : Below w2.heap.size w2 w3 := hdw.trans hb3; have hoL3 := hoL.below hb3'; have KC := (show Hid (w3.cell? ⟨w.heap.size, 0, none⟩ = some sv ∧ w3.cell? ⟨w.heap.size, 1, none⟩ = some (.bool true)) from SK.out w3 hb3'); have KR := (show Hid (Row w3 (w.heap.size + 1) 109 [.slice none 0 0, .bool false]) from rr.below hb3'); have hB3d := zA1 hB zN hb3'; obtain ⟨k0, k1⟩ := SK.out w3 hb3')))
    | fail
    all_goals (
      have hap := (App.pre hB3d happ4)
      have ho := App.box hap (Nat.le_succ _) rr4 (.slice ao4 n4 c4) (.bool true)
      have hr := (rr4.set 0 (.slice ao4 n4 c4)).set 1 (.bool true)
      go_wp2_with fail
      refine bodyPost_ret (v := .agg ([.slice ao4 n4 c4, (.bool true)] : List Value).toArray) (results_cell_row rfl _ _ (w.heap.size + 1) _ _ (0, 0) _ (by rfl) hr Tryz.underlying109 rfl (by kernel_rfl)) rfl ?_
      exact ⟨_, rfl, ho⟩)
end Go.Proofs.YtgjepofinpmcpaaGreatDoor
