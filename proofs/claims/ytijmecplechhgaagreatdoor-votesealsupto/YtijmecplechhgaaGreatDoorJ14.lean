/- The document's writing: votes. -/
import Derived.Test.YtijmecplechhgaaGreatDoorJ13
import Derived.Test.YtijmecplechhgaaGreatDoorJ05
import Derived.Test.YtijmecplechhgaaGreatDoorE1
import Derived.Deep.RegionLaw
section
set_option linter.unusedVariables false
namespace Go.Proofs.YtijmecplechhgaaGreatDoor
open Go.RowKit Oct

/-- What a writing of the document's ends in. -/
def OPost {α : Type} (c : Cdc α) (x : α) (w : World) (sv : Value) (bad : Bool) (L : List Int) (e : Ending) (w' : World) : Prop :=
  ∃ sv', e = .returned (.agg #[sv', .bool (bad || !c.ok x)]) ∧ App w 5 sv w' sv' (bc (L ++ c.wr x))

theorem App.box {w w4 : World} {sv v4 : Value} {X : List Value} (h : App w 5 sv w4 v4 X) {b : Nat} (hb : w.heap.size ≤ b) {t : TypeId} {xs : List Value} (rr : Row w4 b t xs) (u0 u1 : Value) (ht : t ≠ 5 := by decide) :
    App w 5 sv ((w4.setCell ⟨b, 0, none⟩ u0).setCell ⟨b, 1, none⟩ u1) v4 X := by
  have hn := own_row_ne rr h.own ht
  have hg := grown_trans (grown_set w4 b 0 u0) (grown_set (w4.setCell ⟨b, 0, none⟩ u0) b 1 u1) (.inl rfl)
  exact ⟨h.own.grown hg (fun k hk => by cases hk; exact hn), grown_trans h.grown hg (.inr fun k hk => by cases hk; exact hb), h.spot⟩
theorem outI_len (n : Int) : (outI n).length ≤ 10 := by
  unfold outI
  split
  · exact (enc_len n).2
  · simp

set_option maxRecDepth 10000 in
set_option maxHeartbeats 2000000 in
theorem refNum_any (w : World) (sv : Value) (bad : Bool) (L : List Int) (n : Int) (hown : Own w 5 sv (bc L)) (hl : L.length ≤ 140737488355300) :
    Calls Tryz.prog 55 #[.agg #[sv, .bool bad], .int .i64 n] w (OPost cN n w sv bad L) := by
  obtain ⟨w2, hw2⟩ : ∃ w2, w2 = (w.alloc (.cells #[sv, .bool bad] 80)).alloc (.cells #[.slice none 0 0, .bool false] 80) := ⟨_, rfl⟩
  have ra : Row w2 w.heap.size 80 [sv, .bool bad] := by rw [hw2]; exact row_alloc (Row.new w _ _) _
  have rr : Row w2 (w.heap.size + 1) 80 [.slice none 0 0, .bool false] := by
    rw [hw2]
    have := Row.new (w.alloc (.cells #[sv, .bool bad] 80)) 80 [.slice none 0 0, .bool false]
    simpa using this
  have hB : Below w.heap.size w w2 := by rw [hw2]; exact ((Below.refl _ w).alloc (Nat.le_refl _) _).alloc (by simp) _
  have hI := refInt_any w2 n
  go_enter Tryz.func55, Tryz.ntmps55
  go_upto_region 1 with fail
  rw [← hw2]
  clear hw2
  go_wp2_with fail
  refine hI.mono ?_
  rintro e w3 ⟨v3, rfl, hown3, hfr3, hb3⟩
  have ra3 := ra.below hb3
  have c0 := ra3.cell (j := 0) rfl
  have c1 := ra3.cell (j := 1) rfl
  have hB3 := below_and hB (Nat.le_refl _) hb3
  have hoL := hown.below hB3
  clear hI
  have rr3 := rr.below hb3
  have hrd3 := hown3.rdv
  have hne1 := own_row_ne ra3 hoL (by decide)
  have hne2 := own_row_ne rr3 hoL (by decide)
  have KC := (show Hid (w3.drew.cell? ⟨w.heap.size, 0, none⟩ = some sv ∧ w3.drew.cell? ⟨w.heap.size, 1, none⟩ = some (.bool bad)) from ⟨c0, c1⟩)
  have KR := (show Hid (Row w3.drew (w.heap.size + 1) 80 [.slice none 0 0, .bool false]) from rr3)
  have HL := (show Hid (L.length + (outI n).length ≤ 140737488355328) by show _ ≤ _; have := outI_len n; omega)
  have hE : (errI n != 0) = !okI n := by unfold errI; cases okI n <;> rfl
  have hB3d : Below w.heap.size w w3.drew := hB3.trans ⟨rfl, rfl, rfl, Nat.le_refl _, fun _ _ => rfl⟩
  clear ra rr ra3 hown hown3 hfr3 hb3 hl
  generalize errI n = E at *
  go_wp2_with fail
  cases bad with
  | false =>
    go_region_held3 (fun u => u.cell? ⟨w.heap.size, 0, none⟩ = some sv ∧ u.cell? ⟨w.heap.size, 1, none⟩ = some (.bool false))
      (first | exact hS4 | go_keep)
      (first
        | (refine step_bytes (by rfl) _ _ (by rfl) sv L (by rfl) hoL.drew v3 (outI n) (by rfl) hrd3.drew HL.out ?_; intro v4 w4 happ4; obtain ⟨ao4, n4, c4, rfl⟩ := own_slice happ4.own; have hS4 : w4.cell? ⟨w.heap.size, 0, none⟩ = some sv ∧ w4.cell? ⟨w.heap.size, 1, none⟩ = some (.bool false) := ⟨grown_cell happ4.grown KC.out.1 hne1, grown_cell happ4.grown KC.out.2 hne1⟩; have rr4 := KR.out.grown happ4.grown hne2; have d0 := rr4.cell (j := 0) rfl; have d1 := rr4.cell (j := 1) rfl; have z0 := rr4.frozen 0; have z1 := rr4.frozen 1))
    have hap := (App.pre hB3d happ4)
    have ho := App.box hap (Nat.le_succ _) rr4 (.slice ao4 n4 c4) (.bool (!okI n))
    have hr := (rr4.set 0 (.slice ao4 n4 c4)).set 1 (.bool (!okI n))
    go_wp2_with fail
    refine bodyPost_ret (v := .agg ([.slice ao4 n4 c4, (.bool (!okI n))] : List Value).toArray) (results_cell_row rfl _ _ (w.heap.size + 1) _ _ (0, 0) _ (by rfl) hr Tryz.underlying80 rfl (by kernel_rfl)) rfl ?_
    exact ⟨_, rfl, ho⟩
  | true =>
    first
    | (go_region_law
      (first
        | (refine step_bytes (by rfl) _ _ (by rfl) sv L (by rfl) hoL.drew v3 (outI n) (by rfl) hrd3.drew HL.out ?_; intro v4 w4 happ4; obtain ⟨ao4, n4, c4, rfl⟩ := own_slice happ4.own; have hS4 : w4.cell? ⟨w.heap.size, 0, none⟩ = some sv ∧ w4.cell? ⟨w.heap.size, 1, none⟩ = some (.bool true) := ⟨grown_cell happ4.grown KC.out.1 hne1, grown_cell happ4.grown KC.out.2 hne1⟩; have rr4 := KR.out.grown happ4.grown hne2; have d0 := rr4.cell (j := 0) rfl; have d1 := rr4.cell (j := 1) rfl; have z0 := rr4.frozen 0; have z1 := rr4.frozen 1)))
    | fail
    all_goals (
      have hap := (App.pre hB3d happ4)
      have ho := App.box hap (Nat.le_succ _) rr4 (.slice ao4 n4 c4) (.bool true)
      have hr := (rr4.set 0 (.slice ao4 n4 c4)).set 1 (.bool true)
      go_wp2_with fail
      refine bodyPost_ret (v := .agg ([.slice ao4 n4 c4, (.bool true)] : List Value).toArray) (results_cell_row rfl _ _ (w.heap.size + 1) _ _ (0, 0) _ (by rfl) hr Tryz.underlying80 rfl (by kernel_rfl)) rfl ?_
      exact ⟨_, rfl, ho⟩)
set_option maxRecDepth 10000 in
set_option maxHeartbeats 2000000 in
theorem refText_any (w : World) (sv : Value) (bad : Bool) (L : List Int) (p : Value) (t : List Int) (hown : Own w 5 sv (bc L)) (hp : Rd w p t) (hl : L.length ≤ 140730000000000) (ht : t.length ≤ 2147483647) :
    Calls Tryz.prog 78 #[.agg #[sv, .bool bad], p] w (OPost cT t w sv bad L) := by
  obtain ⟨ap, cp, rfl, hcp⟩ := hp.2.form
  rw [bc_len] at hp ⊢
  obtain ⟨w2, hw2⟩ : ∃ w2, w2 = (w.alloc (.cells #[sv, .bool bad] 80)).alloc (.cells #[.slice none 0 0, .bool false] 80) := ⟨_, rfl⟩
  have ra : Row w2 w.heap.size 80 [sv, .bool bad] := by rw [hw2]; exact row_alloc (Row.new w _ _) _
  have rr : Row w2 (w.heap.size + 1) 80 [.slice none 0 0, .bool false] := by
    rw [hw2]
    have := Row.new (w.alloc (.cells #[sv, .bool bad] 80)) 80 [.slice none 0 0, .bool false]
    simpa using this
  have hB : Below w.heap.size w w2 := by rw [hw2]; exact ((Below.refl _ w).alloc (Nat.le_refl _) _).alloc (by simp) _
  have c0 := ra.cell (j := 0) rfl
  have c1 := ra.cell (j := 1) rfl
  have hdw : Below w2.heap.size w2 w2.drew := ⟨rfl, rfl, rfl, Nat.le_refl _, fun _ _ => rfl⟩
  have HI := (show Hid (∀ _ : Unit, _) from fun _ => refBytes_any w2.drew _ t (hp.below (hB.trans (hdw.mono hB.size))) ht)
  have SK := (show Hid (∀ u, Below w2.heap.size w2 u → u.cell? ⟨w.heap.size, 0, none⟩ = some sv ∧ u.cell? ⟨w.heap.size, 1, none⟩ = some (.bool bad)) from fun u hu => ⟨(ra.below hu).cell (j := 0) rfl, (ra.below hu).cell (j := 1) rfl⟩)
  have hoL := hown.below hB
  have hne1 := own_row_ne ra hoL (by decide)
  have hne2 := own_row_ne rr hoL (by decide)
  have HL := (show Hid (L.length + (enc t.length ++ t).length ≤ 140737488355328) by show _ ≤ _; have := enc_len (t.length : Int); have h9 : (enc t.length ++ t).length = (enc t.length).length + t.length := List.length_append; omega)
  have hE : decide ((65536 : Int) < (t.length : Int)) = !(cT.ok t) := by
    show _ = !decide (t.length ≤ 65536)
    by_cases h : t.length ≤ 65536
    · simp [h]; omega
    · simp [h]; omega
  go_enter Tryz.func78, Tryz.ntmps78
  go_upto_region 1 with fail
  rw [← hw2]
  clear hw2 hown hp hl ht
  go_wp2_with fail
  cases bad with
  | false =>
    go_region_held3 (fun u => u.cell? ⟨w.heap.size, 0, none⟩ = some sv ∧ u.cell? ⟨w.heap.size, 1, none⟩ = some (.bool false))
      (first | exact hS4 | exact SK.out _ (by assumption) | go_keep)
      (first
        | (go_at_call 84; refine (HI.out ()).mono ?_; rintro e w3 ⟨v3, rfl, hown3, hfr3, hb3⟩; have hb3' : Below w2.heap.size w2 w3 := hdw.trans hb3; have hoL3 := hoL.below hb3'; have KC := (show Hid (w3.cell? ⟨w.heap.size, 0, none⟩ = some sv ∧ w3.cell? ⟨w.heap.size, 1, none⟩ = some (.bool false)) from SK.out w3 hb3'); have KR := (show Hid (Row w3 (w.heap.size + 1) 80 [.slice none 0 0, .bool false]) from rr.below hb3'); have hB3d := below_and hB (Nat.le_refl _) hb3'; clear HI)
        | (refine step_bytes (by rfl) _ _ (by rfl) sv L (by rfl) hoL3 v3 (enc t.length ++ t) (by rfl) hown3.rdv HL.out ?_; intro v4 w4 happ4; obtain ⟨ao4, n4, c4, rfl⟩ := own_slice happ4.own; have hS4 : w4.cell? ⟨w.heap.size, 0, none⟩ = some sv ∧ w4.cell? ⟨w.heap.size, 1, none⟩ = some (.bool false) := ⟨grown_cell happ4.grown KC.out.1 hne1, grown_cell happ4.grown KC.out.2 hne1⟩; have rr4 := KR.out.grown happ4.grown hne2; have d0 := rr4.cell (j := 0) rfl; have d1 := rr4.cell (j := 1) rfl; have z0 := rr4.frozen 0; have z1 := rr4.frozen 1))
    have hap := (App.pre hB3d happ4)
    have ho := App.box hap (Nat.le_succ _) rr4 (.slice ao4 n4 c4) (.bool (!cT.ok t))
    have hr := (rr4.set 0 (.slice ao4 n4 c4)).set 1 (.bool (!cT.ok t))
    go_wp2_with fail
    refine bodyPost_ret (v := .agg ([.slice ao4 n4 c4, (.bool (!cT.ok t))] : List Value).toArray) (results_cell_row rfl _ _ (w.heap.size + 1) _ _ (0, 0) _ (by rfl) hr Tryz.underlying80 rfl (by kernel_rfl)) rfl ?_
    exact ⟨_, rfl, ho⟩
  | true =>
    first
    | (go_region_law
      (first
        | (refine step_bytes (by rfl) _ _ (by rfl) sv L (by rfl) hoL3 v3 (enc t.length ++ t) (by rfl) hown3.rdv HL.out ?_; intro v4 w4 happ4; obtain ⟨ao4, n4, c4, rfl⟩ := own_slice happ4.own; have hS4 : w4.cell? ⟨w.heap.size, 0, none⟩ = some sv ∧ w4.cell? ⟨w.heap.size, 1, none⟩ = some (.bool true) := ⟨grown_cell happ4.grown KC.out.1 hne1, grown_cell happ4.grown KC.out.2 hne1⟩; have rr4 := KR.out.grown happ4.grown hne2; have d0 := rr4.cell (j := 0) rfl; have d1 := rr4.cell (j := 1) rfl; have z0 := rr4.frozen 0; have z1 := rr4.frozen 1)
        | (go_simp; go_at_call 84; refine (HI.out ()).mono ?_; rintro e w3 ⟨v3, rfl, hown3, hfr3, hb3⟩; have hb3' : Below w2.heap.size w2 w3 := hdw.trans hb3; have hoL3 := hoL.below hb3'; have KC := (show Hid (w3.cell? ⟨w.heap.size, 0, none⟩ = some sv ∧ w3.cell? ⟨w.heap.size, 1, none⟩ = some (.bool true)) from SK.out w3 hb3'); have KR := (show Hid (Row w3 (w.heap.size + 1) 80 [.slice none 0 0, .bool false]) from rr.below hb3'); have hB3d := below_and hB (Nat.le_refl _) hb3'; obtain ⟨k0, k1⟩ := SK.out w3 hb3')))
    | fail
    all_goals (
      have hap := (App.pre hB3d happ4)
      have ho := App.box hap (Nat.le_succ _) rr4 (.slice ao4 n4 c4) (.bool true)
      have hr := (rr4.set 0 (.slice ao4 n4 c4)).set 1 (.bool true)
      go_wp2_with fail
      refine bodyPost_ret (v := .agg ([.slice ao4 n4 c4, (.bool true)] : List Value).toArray) (results_cell_row rfl _ _ (w.heap.size + 1) _ _ (0, 0) _ (by rfl) hr Tryz.underlying80 rfl (by kernel_rfl)) rfl ?_
      exact ⟨_, rfl, ho⟩)
end Go.Proofs.YtijmecplechhgaaGreatDoor
end

section
set_option linter.unusedVariables false
namespace Go.Proofs.YtijmecplechhgaaGreatDoor
open Go.RowKit Oct

/-- How many. -/
def cM : Cdc Int := ⟨fun n => okI n && decide (n ≤ 64), outI, fun _ => none⟩

theorem App.after {w w4 w5 : World} {sv v4 : Value} {X : List Value} (h : App w 5 sv w4 v4 X) {b : Nat} (hb : w.heap.size ≤ b) (hg : w4.grownBy w5 (some b)) (hn : v4.ownBlock ≠ some b) : App w 5 sv w5 v4 X :=
  ⟨h.own.grown hg (fun k hk => by cases hk; exact hn), grown_trans h.grown hg (.inr fun k hk => by cases hk; exact hb), h.spot⟩
theorem one2b {ao : Option Addr} {n c : Nat} {b : Bool} : ∀ x ∈ [Value.slice ao n c, Value.bool b], x.oneCell' = true := by
  intro x hx
  simp only [List.mem_cons, List.not_mem_nil, or_false] at hx
  rcases hx with rfl | rfl <;> rfl

set_option maxRecDepth 10000 in
set_option maxHeartbeats 2000000 in
theorem refMany_any (w : World) (sv : Value) (bad : Bool) (L : List Int) (n : Int) (hown : Own w 5 sv (bc L)) (hl : L.length ≤ 140737488355300) :
    Calls Tryz.prog 80 #[.agg #[sv, .bool bad], .int .i64 n] w (OPost cM n w sv bad L) := by
  obtain ⟨w2, hw2⟩ : ∃ w2, w2 = (w.alloc (.cells #[sv, .bool bad] 80)).alloc (.cells #[.slice none 0 0, .bool false] 80) := ⟨_, rfl⟩
  have ra : Row w2 w.heap.size 80 [sv, .bool bad] := by rw [hw2]; exact row_alloc (Row.new w _ _) _
  have rr : Row w2 (w.heap.size + 1) 80 [.slice none 0 0, .bool false] := by
    rw [hw2]
    have := Row.new (w.alloc (.cells #[sv, .bool bad] 80)) 80 [.slice none 0 0, .bool false]
    simpa using this
  have hB : Below w.heap.size w w2 := by rw [hw2]; exact ((Below.refl _ w).alloc (Nat.le_refl _) _).alloc (by simp) _
  have hoL := hown.below hB
  have hne1 := own_row_ne ra hoL (by decide)
  have hne2 := own_row_ne rr hoL (by decide)
  have c0 := ra.cell (j := 0) rfl
  have c1 := ra.cell (j := 1) rfl
  have hI := refNum_any w2 sv bad L n hoL hl
  go_enter Tryz.func80, Tryz.ntmps80
  go_upto_region 1 with fail
  rw [← hw2]
  clear hw2
  go_wp2_with fail
  refine hI.mono ?_
  rintro e w3 ⟨v3, rfl, happ3⟩
  obtain ⟨ao3, n3, k3, rfl⟩ := own_slice happ3.own
  have ra3 := ra.grown happ3.grown hne1
  have rr3 := rr.grown happ3.grown hne2
  have hap3 := App.pre hB happ3
  have HB := (show Hid ((bad || !cM.ok n) = ((bad || !cN.ok n) || decide (64 < n))) by
    show (bad || !(okI n && decide (n ≤ 64))) = ((bad || !okI n) || decide (64 < n))
    by_cases h : n ≤ 64
    · have : ¬ 64 < n := by omega
      simp [h, this]
    · have : 64 < n := by omega
      simp [h, this])
  clear hI c0 c1 happ3 ra rr hown hoL hl
  generalize (bad || !cN.ok n) = b3 at *
  have ending : ∀ (w4 w5 w6 : World) (b4 : Bool) (xs ys zs : List Value), Row w4 w.heap.size 80 xs → Row w5 w.heap.size 80 ys → Row w6 (w.heap.size + 1) 80 zs → w3.grownBy w4 (some w.heap.size) → w4.grownBy w5 (some w.heap.size) → w5.grownBy w6 (some (w.heap.size + 1)) →
      App w 5 sv w6 (.slice ao3 n3 k3) (bc (L ++ cN.wr n)) := by
    intro w4 w5 w6 b4 xs ys zs r4 r5 r6 g4 g5 g6
    have a4 := App.after hap3 (Nat.le_refl _) g4 (own_row_ne ra3 hap3.own (by decide))
    have a5 := App.after a4 (Nat.le_refl _) g5 (own_row_ne r4 a4.own (by decide))
    exact App.after a5 (Nat.le_succ _) g6 (own_row_ne ((rr3.grown g4 (fun e => by injection e; omega)).grown g5 (fun e => by injection e; omega)) a5.own (by decide))
  have HE := (show Hid (∀ _ : Unit, _) from fun _ => ending)
  clear ending
  cases b3 with
  | false =>
    go_wp2_with (first
      | (refine wl_store rfl _ _ _ rfl w.heap.size [.slice ao3 n3 k3, .bool false] rfl rfl _ _ ra3 rfl (by kernel_rfl) one2b ?_; intro w4 hr4 hg4; have ra4 := hr4.out; have c1 := ra4.cell (j := 1) rfl; have rr4 := rr3.grown hg4 (fun e => by injection e; omega); clear hr4)
      | (refine wl_set rfl _ _ _ rfl w.heap.size 1 _ rfl rfl _ _ ra4 (show 1 < 2 by decide) (by kernel_rfl) rfl ?_; intro w5 hr5 hg5; have ra5 : Row w5 w.heap.size 80 [.slice ao3 n3 k3, .bool (decide (64 < n))] := hr5.out; have rr5 := rr4.grown hg5 (fun e => by injection e; omega); clear hr5)
      | (refine wl_load rfl _ _ rfl w.heap.size rfl _ _ ra5 _ Tryz.underlying80 rfl (by kernel_rfl) ?_)
      | (refine wl_store rfl _ _ _ rfl (w.heap.size + 1) [.slice ao3 n3 k3, .bool (decide (64 < n))] rfl rfl _ _ rr5 rfl (by kernel_rfl) one2b ?_; intro w6 hr6 hg6))
    have hr6 := hr6.out
    refine bodyPost_ret (v := .agg ([.slice ao3 n3 k3, .bool (decide (64 < n))] : List Value).toArray) (results_cell_row rfl _ _ (w.heap.size + 1) _ _ (0, 0) _ (by rfl) hr6 Tryz.underlying80 rfl (by kernel_rfl)) rfl ?_
    refine ⟨_, ?_, HE.out () w4 w5 w6 true _ _ _ ra4 ra5 hr6 hg4 hg5 hg6⟩
    rw [HB.out]
    rfl
  | true =>
    go_wp2_with (first
      | (refine wl_store rfl _ _ _ rfl w.heap.size [.slice ao3 n3 k3, .bool true] rfl rfl _ _ ra3 rfl (by kernel_rfl) one2b ?_; intro w4 hr4 hg4; have ra4 := hr4.out; have c1 := ra4.cell (j := 1) rfl; have rr4 := rr3.grown hg4 (fun e => by injection e; omega); clear hr4)
      | (refine wl_set rfl _ _ _ rfl w.heap.size 1 _ rfl rfl _ _ ra4 (show 1 < 2 by decide) (by kernel_rfl) rfl ?_; intro w5 hr5 hg5; have ra5 : Row w5 w.heap.size 80 [.slice ao3 n3 k3, .bool true] := hr5.out; have rr5 := rr4.grown hg5 (fun e => by injection e; omega); clear hr5)
      | (refine wl_load rfl _ _ rfl w.heap.size rfl _ _ ra5 _ Tryz.underlying80 rfl (by kernel_rfl) ?_)
      | (refine wl_store rfl _ _ _ rfl (w.heap.size + 1) [.slice ao3 n3 k3, .bool true] rfl rfl _ _ rr5 rfl (by kernel_rfl) one2b ?_; intro w6 hr6 hg6))
    have hr6 := hr6.out
    refine bodyPost_ret (v := .agg ([.slice ao3 n3 k3, .bool true] : List Value).toArray) (results_cell_row rfl _ _ (w.heap.size + 1) _ _ (0, 0) _ (by rfl) hr6 Tryz.underlying80 rfl (by kernel_rfl)) rfl ?_
    refine ⟨_, ?_, HE.out () w4 w5 w6 true _ _ _ ra4 ra5 hr6 hg4 hg5 hg6⟩
    rw [HB.out]
    rfl
end Go.Proofs.YtijmecplechhgaaGreatDoor
end

section
set_option linter.unusedVariables false
namespace Go.Proofs.YtijmecplechhgaaGreatDoor
open Go.RowKit Oct

theorem App.grown' {w w' : World} {sv v' : Value} {X : List Value} (h : App w 5 sv w' v' X) : w.grownBy w' sv.ownBlock := h.grown
theorem OPost.end {α : Type} {c : Cdc α} {x : α} {w w' : World} {sv v' : Value} {bad b : Bool} {L X : List Int} (h : App w 5 sv w' v' (bc X)) (hX : X = L ++ c.wr x) (hb : b = (bad || !c.ok x)) : OPost c x w sv bad L (.returned (.agg #[v', .bool b])) w' := by
  subst hX hb
  exact ⟨_, rfl, h⟩

set_option maxRecDepth 10000 in
set_option maxHeartbeats 4000000 in
theorem refReq_any (w0 w : World) (sv : Value) (bad : Bool) (L : List Int) (r : List Value) (x : PReq) (hB0 : Below w0.heap.size w0 w) (hf : Fr w0.heap.size sv) (hown : Own w 5 sv (bc L)) (hr : RReq Any w0 r x) (hl : L.length ≤ 140720000000000) (h1 : x.2.2.1.length ≤ 2147483647) (h2 : x.2.2.2.length ≤ 2147483647) :
    Calls Tryz.prog 77 #[.agg #[sv, .bool bad], .agg r.toArray] w (OPost cReq x w sv bad L) := by
  obtain ⟨vo, vg, rfl, ho, hg⟩ := hr
  obtain ⟨a2, hw2⟩ : ∃ a2, a2 = (w.alloc (.cells #[sv, .bool bad] 80)).alloc (.cells #[.int .i64 x.1, .int .i64 x.2.1, vo, vg] 26) := ⟨_, rfl⟩
  obtain ⟨w2, hw3⟩ : ∃ w2, w2 = a2.alloc (.cells #[.slice none 0 0, .bool false] 80) := ⟨_, rfl⟩
  have hs2 : a2.heap.size = w.heap.size + 2 := by rw [hw2]; simp
  have ra' : Row a2 w.heap.size 80 [sv, .bool bad] := by rw [hw2]; exact row_alloc (Row.new w _ _) _
  have rb' : Row a2 (w.heap.size + 1) 26 [.int .i64 x.1, .int .i64 x.2.1, vo, vg] := by
    rw [hw2]
    have := Row.new (w.alloc (.cells #[sv, .bool bad] 80)) 26 [.int .i64 x.1, .int .i64 x.2.1, vo, vg]
    simpa using this
  have ra : Row w2 w.heap.size 80 [sv, .bool bad] := by rw [hw3]; exact row_alloc ra' _
  have rb : Row w2 (w.heap.size + 1) 26 [.int .i64 x.1, .int .i64 x.2.1, vo, vg] := by rw [hw3]; exact row_alloc rb' _
  have rr : Row w2 (w.heap.size + 2) 80 [.slice none 0 0, .bool false] := by
    rw [hw3, ← hs2]
    exact Row.new a2 _ _
  have hB : Below w.heap.size w w2 := by rw [hw3, hw2]; exact (((Below.refl _ w).alloc (Nat.le_refl _) _).alloc (by simp) _).alloc (by simp; omega) _
  clear ra' rb'
  have hBw0 := below_and hB0 (Nat.le_refl _) hB
  have hoL := hown.below hB
  have hne0 := own_row_ne ra hoL (by decide)
  have hne1 := own_row_ne rb hoL (by decide)
  have hne2 := own_row_ne rr hoL (by decide)
  have HK := (show Hid (∀ u, w2.grownBy u sv.ownBlock → (u.cell? ⟨w.heap.size, 0, none⟩ = some sv ∧ u.cell? ⟨w.heap.size, 1, none⟩ = some (.bool bad)) ∧ u.cell? ⟨w.heap.size + 1, 0, none⟩ = some (.int .i64 x.1) ∧ u.cell? ⟨w.heap.size + 1, 1, none⟩ = some (.int .i64 x.2.1) ∧ u.cell? ⟨w.heap.size + 1, 2, none⟩ = some vo ∧ u.cell? ⟨w.heap.size + 1, 3, none⟩ = some vg) from
    fun u hu => ⟨⟨(ra.grown hu hne0).cell (j := 0) rfl, (ra.grown hu hne0).cell (j := 1) rfl⟩, (rb.grown hu hne1).cell (j := 0) rfl, (rb.grown hu hne1).cell (j := 1) rfl, (rb.grown hu hne1).cell (j := 2) rfl, (rb.grown hu hne1).cell (j := 3) rfl⟩)
  have HR := (show Hid (∀ u, w2.grownBy u sv.ownBlock → Rd u vo x.2.2.1 ∧ Rd u vg x.2.2.2) from fun u hu => by
    have hb := hBw0.trans (grown_below hu hBw0.size hf)
    exact ⟨(ho.mv (Mv.below hb)).1, (hg.mv (Mv.below hb)).1⟩)
  have hdw : Below w2.heap.size w2 w2.drew := ⟨rfl, rfl, rfl, Nat.le_refl _, fun _ _ => rfl⟩
  have g2 : w2.grownBy w2.drew sv.ownBlock := grown_of_below hdw _
  have hn2 : ¬ (w.heap.size = w.heap.size + 1 + 1) := by omega
  have hn3 : ¬ (w.heap.size + 1 + 1 = w.heap.size) := by omega
  have HN1 := (show Hid (∀ _ : Unit, _) from fun _ => refNum_any w2.drew sv bad L x.1 hoL.drew (by omega))
  obtain ⟨⟨k0, k1⟩, k2, k3, k4, k5⟩ := HK.out w2 (grown_of_below (Below.refl _ _) _)
  have l1 := outI_len x.1
  have l2 := outI_len x.2.1
  have l3 := enc_len (x.2.2.1.length : Int)
  have HL2 := (show Hid ((L ++ cN.wr x.1).length ≤ 140737488355300) by show _ ≤ _; rw [List.length_append]; show L.length + (outI x.1).length ≤ _; omega)
  have HL3 := (show Hid (((L ++ cN.wr x.1) ++ cN.wr x.2.1).length ≤ 140730000000000) by show _ ≤ _; rw [List.length_append, List.length_append]; show L.length + (outI x.1).length + (outI x.2.1).length ≤ _; omega)
  have HL4 := (show Hid ((((L ++ cN.wr x.1) ++ cN.wr x.2.1) ++ cT.wr x.2.2.1).length ≤ 140730000000000) by show _ ≤ _; rw [List.length_append, List.length_append, List.length_append]; show L.length + (outI x.1).length + (outI x.2.1).length + (enc x.2.2.1.length ++ x.2.2.1).length ≤ _; have h9 : (enc x.2.2.1.length ++ x.2.2.1).length = (enc x.2.2.1.length).length + x.2.2.1.length := List.length_append; omega)
  go_enter Tryz.func77, Tryz.ntmps77
  go_upto_region 1 with fail
  rw [← hw2, ← hw3]
  clear hw2 hw3 hs2 l1 l2 l3 ho hg hown hB0 hl
  go_wp2_with fail
  go_region_held3 (fun u => (u.cell? ⟨w.heap.size, 0, none⟩ = some sv ∧ u.cell? ⟨w.heap.size, 1, none⟩ = some (.bool bad)) ∧ u.cell? ⟨w.heap.size + 1, 0, none⟩ = some (.int .i64 x.1) ∧ u.cell? ⟨w.heap.size + 1, 1, none⟩ = some (.int .i64 x.2.1) ∧ u.cell? ⟨w.heap.size + 1, 2, none⟩ = some vo ∧ u.cell? ⟨w.heap.size + 1, 3, none⟩ = some vg)
    (first | exact HK.out _ (by assumption) | go_keep)
    (first
      | (go_at_call 78; refine (refText_any w5 _ _ _ vg _ a5.own (HR.out w5 a5.grown').2 HL4.out h2).mono ?_; rintro e w6 ⟨v6, rfl, q6⟩; have a6 := a5.trans q6; have gg6 := a6.grown'; obtain ⟨ao6, n6, c6, rfl⟩ := own_slice a6.own; have rr6 := rr.grown gg6 hne2; have d0 := rr6.cell (j := 0) rfl; have d1 := rr6.cell (j := 1) rfl; have z0 := rr6.frozen 0; have z1 := rr6.frozen 1; have hS6 := HK.out w6 gg6)
      | (go_at_call 78; refine (refText_any w4 _ _ _ vo _ a4.own (HR.out w4 a4.grown').1 HL3.out h1).mono ?_; rintro e w5 ⟨v5, rfl, q5⟩; have a5 := a4.trans q5; have gg5 := a5.grown')
      | (go_at_call 55; refine (refNum_any w3 _ _ _ _ a3.own HL2.out).mono ?_; rintro e w4 ⟨v4, rfl, q4⟩; have a4 := a3.trans q4; have gg4 := a4.grown')
      | (go_at_call 55; refine (HN1.out ()).mono ?_; rintro e w3 ⟨v3, rfl, q3⟩; have a3 := App.pre hdw q3; have gg3 := a3.grown'))
  have hap := App.pre hB a6
  have ho := App.box hap (by omega) rr6 (.slice ao6 n6 c6) (.bool ((((bad || !cN.ok x.1) || !cN.ok x.2.1) || !cT.ok x.2.2.1) || !cT.ok x.2.2.2))
  have hr := (rr6.set 0 (.slice ao6 n6 c6)).set 1 (.bool ((((bad || !cN.ok x.1) || !cN.ok x.2.1) || !cT.ok x.2.2.1) || !cT.ok x.2.2.2))
  go_wp2_with fail
  refine bodyPost_ret (v := .agg ([.slice ao6 n6 c6, .bool ((((bad || !cN.ok x.1) || !cN.ok x.2.1) || !cT.ok x.2.2.1) || !cT.ok x.2.2.2)] : List Value).toArray) (results_cell_row rfl _ _ (w.heap.size + 2) _ _ (0, 0) _ (by rfl) hr Tryz.underlying80 rfl (by kernel_rfl)) rfl ?_
  refine OPost.end ho (by simp [cReq, cP, List.append_assoc]) (by simp [cReq, cP, Bool.or_assoc])
end Go.Proofs.YtijmecplechhgaaGreatDoor
end

section
set_option linter.unusedVariables false
namespace Go.Proofs.YtijmecplechhgaaGreatDoor
open Go.RowKit Oct

theorem bS_mem {α : Type} {f : α → Nat} : ∀ {ys : List α} {y : α}, y ∈ ys → f y ≤ bS f ys
  | z :: zs, y, h => by
    simp only [bS]
    cases List.mem_cons.1 h with
    | inl e => subst e; omega
    | inr e => have := bS_mem (f := f) e; omega
theorem wrN_len {α : Type} {c : Cdc α} {f : α → Nat} {k : Nat} (h : ∀ y, (c.wr y).length ≤ k * f y) : ∀ ys : List α, (wrN c ys).length ≤ k * bS f ys
  | [] => by simp [wrN]
  | y :: ys => by
    have h1 := h y
    have h2 := wrN_len h ys
    rw [wrN_cons, List.length_append]
    simp only [bS, Nat.mul_add]
    omega
theorem wrN_takes {α : Type} (c : Cdc α) (ys : List α) (q : Nat) : (wrN c (ys.take q)).length ≤ (wrN c ys).length := by
  have := congrArg List.length (wrN_app c (ys.take q) (ys.drop q))
  rw [List.take_append_drop, List.length_append] at this
  omega
theorem cT_len (t : List Int) : (cT.wr t).length ≤ 10 + t.length := by
  show (enc t.length ++ t).length ≤ _
  have := enc_len (t.length : Int)
  rw [List.length_append]
  omega
theorem cVote_len (y : PVote) : (cVote.wr y).length ≤ 20 * bV y := by
  show (outI y.1 ++ cT.wr y.2).length ≤ _
  have h1 := outI_len y.1
  have h2 := cT_len y.2
  rw [List.length_append]
  simp only [bV, bT]
  omega
/-- The list written so far. -/
def Lq {α : Type} (c : Cdc α) (L : List Int) (ys : List α) (q : Nat) : List Int := L ++ (outI ys.length ++ wrN c (ys.take q))
def Bq {α : Type} (c : Cdc α) (bad : Bool) (ys : List α) (q : Nat) : Bool := (bad || !cM.ok (ys.length : Int)) || !((ys.take q).all c.ok)
theorem Lq_zero {α : Type} (c : Cdc α) (L : List Int) (ys : List α) : L ++ cM.wr (ys.length : Int) = Lq c L ys 0 := by
  show L ++ outI _ = L ++ (outI _ ++ wrN c (ys.take 0))
  simp [wrN]
theorem Bq_zero {α : Type} (c : Cdc α) (bad : Bool) (ys : List α) : (bad || !cM.ok (ys.length : Int)) = Bq c bad ys 0 := by simp [Bq]
theorem Lq_succ {α : Type} (c : Cdc α) (L : List Int) (ys : List α) {q : Nat} {a : α} (h : ys[q]? = some a) : Lq c L ys q ++ c.wr a = Lq c L ys (q + 1) := by
  unfold Lq
  rw [take_snoc' ys q a h, wrN_app, wrN_one]
  simp [List.append_assoc]
theorem Bq_succ {α : Type} (c : Cdc α) (bad : Bool) (ys : List α) {q : Nat} {a : α} (h : ys[q]? = some a) : (Bq c bad ys q || !c.ok a) = Bq c bad ys (q + 1) := by
  unfold Bq
  rw [take_snoc' ys q a h, List.all_append]
  simp [Bool.or_assoc]
theorem Lq_all {α : Type} (c : Cdc α) (L : List Int) (ys : List α) : Lq c L ys ys.length = L ++ (cL c).wr ys := by simp [Lq, cL]
theorem Bq_all {α : Type} (c : Cdc α) (bad : Bool) (ys : List α) (h : ys.length ≤ 2147483647) : Bq c bad ys ys.length = (bad || !(cL c).ok ys) := by
  have h1 : okI (ys.length : Int) = true := okI_yes (by omega) (by omega)
  have h2 : decide ((ys.length : Int) ≤ 64) = decide (ys.length ≤ 64) := by rw [decide_eq_decide]; omega
  simp only [Bq, List.take_length, cL, cM, h1, Bool.true_and, h2]
  simp [Bool.or_assoc]
theorem Lq_len {α : Type} (c : Cdc α) {f : α → Nat} (h : ∀ y, (c.wr y).length ≤ 20 * f y) (L : List Int) (ys : List α) (q : Nat) : (Lq c L ys q).length ≤ L.length + 20 * bL f ys := by
  unfold Lq
  have h1 := outI_len (ys.length : Int)
  have h2 := wrN_takes c ys q
  have h3 := wrN_len h ys
  rw [List.length_append, List.length_append]
  simp only [bL, Nat.mul_add]
  omega
theorem len_bS {α : Type} {f : α → Nat} (h : ∀ y, 1 ≤ f y) : ∀ ys : List α, ys.length ≤ bS f ys
  | [] => Nat.le_refl _
  | y :: ys => by have := h y; have := len_bS h ys; simp only [bS, List.length_cons]; omega

set_option maxRecDepth 10000 in
set_option maxHeartbeats 4000000 in
theorem refVotes_any (w0 w : World) (sv : Value) (bad : Bool) (L : List Int) (lv : Value) (ys : List PVote) (hB0 : Below w0.heap.size w0 w) (hf : Fr w0.heap.size sv) (hown : Own w 5 sv (bc L)) (hr : RL RVote 2 Any w0 lv ys) (hl : L.length + bL bV ys * 20 ≤ 140720000000000) (hz : bL bV ys ≤ 2000000) :
    Calls Tryz.prog 79 #[.agg #[sv, .bool bad], lv] w (OPost (cL cVote) ys w sv bad L) := by
  obtain ⟨ao, cap, rfl, hcap⟩ := hr.form
  obtain ⟨w2, hw2⟩ : ∃ w2, w2 = (w.alloc (.cells #[sv, .bool bad] 80)).alloc (.cells #[.slice none 0 0, .bool false] 80) := ⟨_, rfl⟩
  have ra : Row w2 w.heap.size 80 [sv, .bool bad] := by rw [hw2]; exact row_alloc (Row.new w _ _) _
  have rr : Row w2 (w.heap.size + 1) 80 [.slice none 0 0, .bool false] := by
    rw [hw2]
    have := Row.new (w.alloc (.cells #[sv, .bool bad] 80)) 80 [.slice none 0 0, .bool false]
    simpa using this
  have hB : Below w.heap.size w w2 := by rw [hw2]; exact ((Below.refl _ w).alloc (Nat.le_refl _) _).alloc (by simp) _
  have hoL := hown.below hB
  have hne1 := own_row_ne ra hoL (by decide)
  have hne2 := own_row_ne rr hoL (by decide)
  have c0 := ra.cell (j := 0) rfl
  have c1 := ra.cell (j := 1) rfl
  have hM := refMany_any w2 sv bad L (ys.length : Int) hoL (by omega)
  go_enter Tryz.func79, Tryz.ntmps79
  go_upto_region 1 with fail
  rw [← hw2]
  clear hw2
  go_wp2_with fail
  refine hM.mono ?_
  rintro e w3 ⟨v3, rfl, happ3⟩
  obtain ⟨ao3, n3, k3, rfl⟩ := own_slice happ3.own
  have ra3 := ra.grown happ3.grown hne1
  have rr3 := rr.grown happ3.grown hne2
  have hap3 := App.pre hB happ3
  clear hM c0 c1 happ3 ra rr hown hoL
  go_wp2_with (refine wl_store rfl _ _ _ rfl w.heap.size [.slice ao3 n3 k3, .bool (bad || !cM.ok (ys.length : Int))] rfl rfl _ _ ra3 rfl (by kernel_rfl) one2b ?_; intro w4 hr4 hg4)
  have hr4 := hr4.out
  have rr4 := rr3.grown hg4 (fun e => by injection e; omega)
  have ha4 := App.after hap3 (Nat.le_refl _) hg4 (own_row_ne ra3 hap3.own (by decide))
  rw [Lq_zero cVote] at ha4
  rw [Bq_zero cVote] at hr4
  have hlen := len_bS (f := bV) (fun y => by simp only [bV]; omega) ys
  have hlz : ys.length ≤ 2000000 := by simp only [bL] at hz; omega
  have HX := (show Hid (0 < ys.length → ∃ b off, ao = some ⟨b, off, none⟩ ∧ b < w0.heap.size ∧ ∀ (i : Nat) (a : PVote), ys[i]? = some a → ∃ r, r.length = 2 ∧ w0.rangeAt b (off + i * 2) r ∧ RVote Any w0 r a) from fun h0 => by
    obtain ⟨b, off, c', e, _, _, _, hbb, hx⟩ := hr.at h0
    injection e with e1 e2 e3
    exact ⟨b, off, e1, hbb, hx⟩)
  have HLE := (show Hid (∀ q, (Lq cVote L ys q).length ≤ 140720000000000) from fun q => by have := Lq_len cVote cVote_len L ys q; omega)
  have HZ := (show Hid (∀ y ∈ ys, y.2.length ≤ 2147483647) from fun y hy => by have := bS_mem (f := bV) hy; simp only [bV, bT] at this; simp only [bL] at hz; omega)
  have HBA := (show Hid (Bq cVote bad ys ys.length = (bad || !(cL cVote).ok ys)) from Bq_all _ _ _ (by omega))
  clear hap3 ra3 rr3 hg4 hr hlen hl hz hB hne1 hne2
  generalize Value.agg #[Value.slice ao3 n3 k3, Value.bool (bad || !cM.ok (ys.length : Int))] = junk at *
  go_loopw [13] (fun i wr => ∃ (q : Nat) (ak : Option Addr) (nk ck : Nat), q ≤ ys.length ∧ i = .int .i64 q ∧ Row wr w.heap.size 80 [.slice ak nk ck, .bool (Bq cVote bad ys q)] ∧ Row wr (w.heap.size + 1) 80 [.slice none 0 0, .bool false] ∧ App w 5 sv wr (.slice ak nk ck) (bc (Lq cVote L ys q))) (fun i _ => ys.length - (intOf i).toNat)
  case atStart => exact ⟨0, ao3, n3, k3, by omega, rfl, hr4, rr4, ha4⟩
  case round =>
    clear hr4 rr4 ha4
    obtain ⟨q, ak, nk, ck, hq, rfl, ra5, rr5, ha5⟩ := hrel
    by_cases hql : q < ys.length
    · obtain ⟨b, off, rfl, hbb, hx⟩ := HX.out (by omega)
      obtain ⟨a, ha⟩ : ∃ a, ys[q]? = some a := ⟨_, List.getElem?_eq_getElem hql⟩
      obtain ⟨r, _, hrng, s, rfl, hs⟩ := hx q a ha
      have hz' := HZ.out a (List.mem_of_getElem? ha)
      have hBr := hB0.trans (ha5.below hf hB0.size)
      have hrng := rangeAt_block hrng (hBr.block b hbb)
      have hso := hs.one
      obtain ⟨so, sc, rfl, _⟩ := hs.form
      have hrow0 := Row.new wr 41 [.int .i64 0, .slice none 0 0]
      have HSL := (show Hid (Lq cVote L ys q ++ cVote.wr a = Lq cVote L ys (q + 1)) from Lq_succ _ _ _ ha)
      have HSB := (show Hid ((Bq cVote bad ys q || !cVote.ok a) = Bq cVote bad ys (q + 1)) from Bq_succ _ _ _ ha)
      clear ha hx
      go_wp2_with (first
        | (refine wpList_load_mid rfl _ _ rfl b (off + q * 2) rfl [.int .i64 a.1, .slice so a.2.length sc] _ hrng Tryz.underlying41 rfl (by kernel_rfl) ?_)
        | (refine wl_store rfl _ _ _ rfl wr.heap.size [.int .i64 a.1, .slice so a.2.length sc] rfl rfl _ _ hrow0 rfl (by kernel_rfl) (one2 hso) ?_; intro w5 hr5 hg5))
      have hb5 : Below wr.heap.size wr w5 := (below_alloc wr (.cells ([.int .i64 0, .slice none 0 0] : List Value).toArray 41)).trans (grown_below hg5 (by simp) (fun k hk => by cases hk; exact Nat.le_refl _))
      have rv := hr5.out
      have ra6 := ra5.below hb5
      have rr6 := rr5.below hb5
      have hB5 := below_and hBr (Nat.le_refl _) hb5
      have ho5 := ha5.own.below hb5
      have ha5' : App w 5 sv w5 (.slice ak nk ck) (bc (Lq cVote L ys q)) := ⟨ho5, grown_trans ha5.grown (grown_of_below hb5 none) (.inr fun k hk => by cases hk), ha5.spot⟩
      have hf5 : Fr w0.heap.size (.slice ak nk ck) := ha5.fr hf hB0.size
      have hn0 := own_row_ne ra6 ho5 (by decide)
      have hn1 := own_row_ne rr6 ho5 (by decide)
      have hnv := own_row_ne rv ho5 (by decide)
      have hdw : Below w5.heap.size w5 w5.drew := ⟨rfl, rfl, rfl, Nat.le_refl _, fun _ _ => rfl⟩
      have p0 := ra6.cell (j := 0) rfl
      have p1 := ra6.cell (j := 1) rfl
      have p2 := rv.cell (j := 0) rfl
      have p3 := rv.cell (j := 1) rfl
      have HN := (show Hid (∀ _ : Unit, _) from fun _ => refNum_any w5.drew (.slice ak nk ck) (Bq cVote bad ys q) (Lq cVote L ys q) a.1 ho5.drew (Nat.le_trans (HLE.out q) (by decide)))
      have HLn := (show Hid ((Lq cVote L ys q ++ cN.wr a.1).length ≤ 140730000000000) by show _ ≤ _; have := HLE.out q; have h9 := outI_len a.1; rw [List.length_append]; show _ + (outI a.1).length ≤ _; omega)
      have HRD := (show Hid (∀ u, w5.grownBy u (Value.slice ak nk ck).ownBlock → Rd u (.slice so a.2.length sc) a.2) from fun u hu => ((hs.mv (Mv.below (hB5.trans (grown_below hu hB5.size hf5)))).1))
      clear hrng hrow0 hg5 hr5 ra5 rr5 ha5 hs hb5
      go_wp2_with fail
      go_region_law (first
        | (go_simp; go_at_call 78; refine (refText_any w6 _ _ _ _ _ a6.own (HRD.out w6 a6.grown) HLn.out hz').mono ?_; rintro e w7 ⟨v7, rfl, q7⟩; have a7 := a6.trans q7; obtain ⟨ao7, n7, c7, rfl⟩ := own_slice a7.own; have ra7 := ra6.grown a7.grown hn0; have d0 := ra7.cell (j := 0) rfl; have d1 := ra7.cell (j := 1) rfl; have z0 := ra7.frozen 0; have z1 := ra7.frozen 1)
        | (go_simp; go_at_call 55; refine (HN.out ()).mono ?_; rintro e w6 ⟨v6, rfl, q6⟩; have a6 := App.pre hdw q6; have p4 := (rv.grown a6.grown hnv).cell (j := 1) rfl))
      all_goals (
        have e1 : (Lq cVote L ys q ++ cN.wr a.1) ++ cT.wr a.2 = Lq cVote L ys (q + 1) := by rw [← HSL.out, List.append_assoc]; rfl
        have e2 : ((Bq cVote bad ys q || !cN.ok a.1) || !cT.ok a.2) = Bq cVote bad ys (q + 1) := by rw [← HSB.out]; simp [cVote, cP, Bool.or_assoc]
        have hb7 := App.box (ha5'.trans a7) (Nat.le_refl _) ra7 (.slice ao7 n7 c7) (.bool ((Bq cVote bad ys q || !cN.ok a.1) || !cT.ok a.2))
        have hr7 := (ra7.set 0 (.slice ao7 n7 c7)).set 1 (.bool ((Bq cVote bad ys q || !cN.ok a.1) || !cT.ok a.2))
        have rr7 := (((rr6.grown a7.grown hn1).grown (grown_set w7 w.heap.size 0 (.slice ao7 n7 c7)) (fun e => by injection e; omega)).grown (grown_set (w7.setCell ⟨w.heap.size, 0, none⟩ (.slice ao7 n7 c7)) w.heap.size 1 (.bool ((Bq cVote bad ys q || !cN.ok a.1) || !cT.ok a.2))) (fun e => by injection e; omega))
        rw [e1] at hb7
        have HR := (show Hid (Row _ w.heap.size 80 [.slice ao7 n7 c7, .bool ((Bq cVote bad ys q || !cN.ok a.1) || !cT.ok a.2)]) from hr7)
        rw [e2] at hb7 HR rr7 ⊢
        clear hr7 e1 e2 p0 p1 p2 p3
        go_wp2_with fail
        go_roundw
        case rel => exact ⟨q + 1, ao7, n7, c7, by omega, by go_num, HR.out, rr7, hb7⟩
        case measure => simp [intOf]; omega)
    · obtain rfl : q = ys.length := by omega
      rw [HBA.out] at ra5
      rw [Lq_all] at ha5
      go_wp2_with (first
        | (refine wl_load rfl _ _ rfl w.heap.size rfl _ _ ra5 _ Tryz.underlying80 rfl (by kernel_rfl) ?_)
        | (refine wl_store rfl _ _ _ rfl (w.heap.size + 1) [.slice ak nk ck, .bool (bad || !(cL cVote).ok ys)] rfl rfl _ _ rr5 rfl (by kernel_rfl) one2b ?_; intro w6 hr6 hg6))
      have hr6 := hr6.out
      refine bodyPost_ret (v := .agg ([.slice ak nk ck, .bool (bad || !(cL cVote).ok ys)] : List Value).toArray) (results_cell_row rfl _ _ (w.heap.size + 1) _ _ (0, 0) _ (by rfl) hr6 Tryz.underlying80 rfl (by kernel_rfl)) rfl ?_
      exact ⟨_, rfl, App.after ha5 (Nat.le_succ _) hg6 (own_row_ne rr5 ha5.own (by decide))⟩
end Go.Proofs.YtijmecplechhgaaGreatDoor
end
