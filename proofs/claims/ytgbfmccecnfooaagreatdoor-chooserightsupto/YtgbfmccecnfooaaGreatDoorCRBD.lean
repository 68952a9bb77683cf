/- The document's writing: reports. -/
import Derived.Test.YtgbfmccecnfooaaGreatDoorCRAY
set_option linter.unusedSimpArgs false
set_option linter.unusedVariables false
namespace Go.Proofs.YtgbfmccecnfooaaGreatDoor
section
open Go.RowKit Oct
/-- How many. -/
def cMn : Cdc Int := ⟨fun n => okI n && decide (n ≤ 64), outI, fun _ => none⟩
theorem App.after {w w4 w5 : World} {sv v4 : Value} {X : List Value} (h : App w 5 sv w4 v4 X) {b : Nat} (hb : w.heap.size ≤ b) (hg : w4.grownBy w5 (some b)) (hn : v4.ownBlock ≠ some b) : App w 5 sv w5 v4 X :=
  ⟨h.own.grown hg (fun k hk => by cases hk; exact hn), grown_trans h.grown hg (.inr fun k hk => by cases hk; exact hb), h.spot⟩
theorem one2b {ao : Option Addr} {n c : Nat} {b : Bool} : ∀ x ∈ [Value.slice ao n c, Value.bool b], x.oneCell' = true := by
  intro x hx
  simp only [List.mem_cons, List.not_mem_nil, or_false] at hx
  rcases hx with rfl | rfl <;> rfl
set_option maxRecDepth 10000 in
set_option maxHeartbeats 2000000 in
theorem refMany_any (w : World) (sv : Value) (bad : Bool) (L : List Int) (n : Int) (hown : Own w 5 sv (bc L)) (hl : L.length ≤ 140737488355300) :
    Calls Tryz.prog 166 #[.agg #[sv, .bool bad], .int .i64 n] w (OPost cMn n w sv bad L) := by
  obtain ⟨w2, hw2⟩ : ∃ w2, w2 = (w.alloc (.cells #[sv, .bool bad] 157)).alloc (.cells #[.slice none 0 0, .bool false] 157) := ⟨_, rfl⟩
  have ra : Row w2 w.heap.size 157 [sv, .bool bad] := by rw [hw2]; exact row_alloc (Row.new w _ _) _
  have rr : Row w2 (w.heap.size + 1) 157 [.slice none 0 0, .bool false] := by
    rw [hw2]
    have := Row.new (w.alloc (.cells #[sv, .bool bad] 157)) 157 [.slice none 0 0, .bool false]
    simpa using this
  have hB : Below w.heap.size w w2 := by rw [hw2]; exact ((Below.refl _ w).alloc (Nat.le_refl _) _).alloc (by simp) _
  have hoL := hown.below hB
  have hne1 := own_row_ne ra hoL (by decide)
  have hne2 := own_row_ne rr hoL (by decide)
  have c0 := ra.cell (j := 0) rfl
  have c1 := ra.cell (j := 1) rfl
  have hI := refNum_any w2 sv bad L n hoL hl
  go_enter Tryz.func166, Tryz.ntmps166
  go_upto_region 1 with fail
  rw [← hw2]
  clear hw2
  go_wp2_with fail
  refine hI.mono ?_
  rintro e w3 ⟨v3, rfl, happ3⟩
  obtain ⟨ao3, n3, k3, rfl⟩ := own_slice happ3.own
  have ra3 := ra.grown happ3.grown hne1
  have rr3 := rr.grown happ3.grown hne2
  have hap3 := App.pre hB happ3
  have HB := (show Hid ((bad || !cMn.ok n) = ((bad || !cN.ok n) || decide (64 < n))) by
    show (bad || !(okI n && decide (n ≤ 64))) = ((bad || !okI n) || decide (64 < n))
    by_cases h : n ≤ 64
    · have : ¬ 64 < n := by omega
      simp [h, this]
    · have : 64 < n := by omega
      simp [h, this])
  clear hI c0 c1 happ3 ra rr hown hoL hl
  generalize (bad || !cN.ok n) = b3 at *
  have ending : ∀ (w4 w5 w6 : World) (b4 : Bool) (xs ys zs : List Value), Row w4 w.heap.size 157 xs → Row w5 w.heap.size 157 ys → Row w6 (w.heap.size + 1) 157 zs → w3.grownBy w4 (some w.heap.size) → w4.grownBy w5 (some w.heap.size) → w5.grownBy w6 (some (w.heap.size + 1)) →
      App w 5 sv w6 (.slice ao3 n3 k3) (bc (L ++ cN.wr n)) := by
    intro w4 w5 w6 b4 xs ys zs r4 r5 r6 g4 g5 g6
    have a4 := App.after hap3 (Nat.le_refl _) g4 (own_row_ne ra3 hap3.own (by decide))
    have a5 := App.after a4 (Nat.le_refl _) g5 (own_row_ne r4 a4.own (by decide))
    exact App.after a5 (Nat.le_succ _) g6 (own_row_ne ((rr3.grown g4 (fun e => by injection e; omega)).grown g5 (fun e => by injection e; omega)) a5.own (by decide))
  have HE := (show Hid (∀ _ : Unit, _) from fun _ => ending)
  clear ending
  cases b3 with
  | false =>
    go_wp2_with (first
      | (refine wl_store rfl _ _ _ rfl w.heap.size [.slice ao3 n3 k3, .bool false] rfl rfl _ _ ra3 rfl (by kernel_rfl) one2b ?_; intro w4 hr4 hg4; have ra4 := hr4.out; have c1 := ra4.cell (j := 1) rfl; have rr4 := rr3.grown hg4 (fun e => by injection e; omega); clear hr4)
      | (refine wl_set rfl _ _ _ rfl w.heap.size 1 _ rfl rfl _ _ ra4 (show 1 < 2 by decide) (by kernel_rfl) rfl ?_; intro w5 hr5 hg5; have ra5 : Row w5 w.heap.size 157 [.slice ao3 n3 k3, .bool (decide (64 < n))] := hr5.out; have rr5 := rr4.grown hg5 (fun e => by injection e; omega); clear hr5)
      | (refine wl_load rfl _ _ rfl w.heap.size rfl _ _ ra5 _ Tryz.underlying157 rfl (by kernel_rfl) ?_)
      | (refine wl_store rfl _ _ _ rfl (w.heap.size + 1) [.slice ao3 n3 k3, .bool (decide (64 < n))] rfl rfl _ _ rr5 rfl (by kernel_rfl) one2b ?_; intro w6 hr6 hg6))
    have hr6 := hr6.out
    refine bodyPost_ret (v := .agg ([.slice ao3 n3 k3, .bool (decide (64 < n))] : List Value).toArray) (results_cell_row rfl _ _ (w.heap.size + 1) _ _ (0, 0) _ (by rfl) hr6 Tryz.underlying157 rfl (by kernel_rfl)) rfl ?_
    refine ⟨_, ?_, HE.out () w4 w5 w6 true _ _ _ ra4 ra5 hr6 hg4 hg5 hg6⟩
    rw [HB.out]
    rfl
  | true =>
    go_wp2_with (first
      | (refine wl_store rfl _ _ _ rfl w.heap.size [.slice ao3 n3 k3, .bool true] rfl rfl _ _ ra3 rfl (by kernel_rfl) one2b ?_; intro w4 hr4 hg4; have ra4 := hr4.out; have c1 := ra4.cell (j := 1) rfl; have rr4 := rr3.grown hg4 (fun e => by injection e; omega); clear hr4)
      | (refine wl_set rfl _ _ _ rfl w.heap.size 1 _ rfl rfl _ _ ra4 (show 1 < 2 by decide) (by kernel_rfl) rfl ?_; intro w5 hr5 hg5; have ra5 : Row w5 w.heap.size 157 [.slice ao3 n3 k3, .bool true] := hr5.out; have rr5 := rr4.grown hg5 (fun e => by injection e; omega); clear hr5)
      | (refine wl_load rfl _ _ rfl w.heap.size rfl _ _ ra5 _ Tryz.underlying157 rfl (by kernel_rfl) ?_)
      | (refine wl_store rfl _ _ _ rfl (w.heap.size + 1) [.slice ao3 n3 k3, .bool true] rfl rfl _ _ rr5 rfl (by kernel_rfl) one2b ?_; intro w6 hr6 hg6))
    have hr6 := hr6.out
    refine bodyPost_ret (v := .agg ([.slice ao3 n3 k3, .bool true] : List Value).toArray) (results_cell_row rfl _ _ (w.heap.size + 1) _ _ (0, 0) _ (by rfl) hr6 Tryz.underlying157 rfl (by kernel_rfl)) rfl ?_
    refine ⟨_, ?_, HE.out () w4 w5 w6 true _ _ _ ra4 ra5 hr6 hg4 hg5 hg6⟩
    rw [HB.out]
    rfl
end
section
open Go.RowKit Oct
theorem App.grown' {w w' : World} {sv v' : Value} {X : List Value} (h : App w 5 sv w' v' X) : w.grownBy w' sv.ownBlock := h.grown
theorem OPost.end {α : Type} {c : Cdc α} {x : α} {w w' : World} {sv v' : Value} {bad b : Bool} {L X : List Int} (h : App w 5 sv w' v' (bc X)) (hX : X = L ++ c.wr x) (hb : b = (bad || !c.ok x)) : OPost c x w sv bad L (.returned (.agg #[v', .bool b])) w' := by
  subst hX hb
  exact ⟨_, rfl, h⟩
set_option maxRecDepth 10000 in
set_option maxHeartbeats 4000000 in
theorem refReq_any (w0 w : World) (sv : Value) (bad : Bool) (L : List Int) (r : List Value) (x : PReq) (hB0 : Below w0.heap.size w0 w) (hf : Fr w0.heap.size sv) (hown : Own w 5 sv (bc L)) (hr : RReq Any w0 r x) (hl : L.length ≤ 140720000000000) (h1 : x.2.2.1.length ≤ 2147483647) (h2 : x.2.2.2.length ≤ 2147483647) :
    Calls Tryz.prog 163 #[.agg #[sv, .bool bad], .agg r.toArray] w (OPost cReq x w sv bad L) := by
  obtain ⟨vo, vg, rfl, ho, hg⟩ := hr
  obtain ⟨a2, hw2⟩ : ∃ a2, a2 = (w.alloc (.cells #[sv, .bool bad] 157)).alloc (.cells #[.int .i64 x.1, .int .i64 x.2.1, vo, vg] 62) := ⟨_, rfl⟩
  obtain ⟨w2, hw3⟩ : ∃ w2, w2 = a2.alloc (.cells #[.slice none 0 0, .bool false] 157) := ⟨_, rfl⟩
  have hs2 : a2.heap.size = w.heap.size + 2 := by rw [hw2]; simp
  have ra' : Row a2 w.heap.size 157 [sv, .bool bad] := by rw [hw2]; exact row_alloc (Row.new w _ _) _
  have rb' : Row a2 (w.heap.size + 1) 62 [.int .i64 x.1, .int .i64 x.2.1, vo, vg] := by
    rw [hw2]
    have := Row.new (w.alloc (.cells #[sv, .bool bad] 157)) 62 [.int .i64 x.1, .int .i64 x.2.1, vo, vg]
    simpa using this
  have ra : Row w2 w.heap.size 157 [sv, .bool bad] := by rw [hw3]; exact row_alloc ra' _
  have rb : Row w2 (w.heap.size + 1) 62 [.int .i64 x.1, .int .i64 x.2.1, vo, vg] := by rw [hw3]; exact row_alloc rb' _
  have rr : Row w2 (w.heap.size + 2) 157 [.slice none 0 0, .bool false] := by
    rw [hw3, ← hs2]
    exact Row.new a2 _ _
  have hB : Below w.heap.size w w2 := by rw [hw3, hw2]; exact (((Below.refl _ w).alloc (Nat.le_refl _) _).alloc (by simp) _).alloc (by simp; omega) _
  clear ra' rb'
  have hBw0 := below_and hB0 (Nat.le_refl _) hB
  have hoL := hown.below hB
  have hne0 := own_row_ne ra hoL (by decide)
  have hne1 := own_row_ne rb hoL (by decide)
  have hne2 := own_row_ne rr hoL (by decide)
  have HK := (show Hid (∀ u, w2.grownBy u sv.ownBlock → (u.cell? ⟨w.heap.size, 0, none⟩ = some sv ∧ u.cell? ⟨w.heap.size, 1, none⟩ = some (.bool bad)) ∧ u.cell? ⟨w.heap.size + 1, 0, none⟩ = some (.int .i64 x.1) ∧ u.cell? ⟨w.heap.size + 1, 1, none⟩ = some (.int .i64 x.2.1) ∧ u.cell? ⟨w.heap.size + 1, 2, none⟩ = some vo ∧ u.cell? ⟨w.heap.size + 1, 3, none⟩ = some vg) from
    fun u hu => ⟨⟨(ra.grown hu hne0).cell (j := 0) rfl, (ra.grown hu hne0).cell (j := 1) rfl⟩, (rb.grown hu hne1).cell (j := 0) rfl, (rb.grown hu hne1).cell (j := 1) rfl, (rb.grown hu hne1).cell (j := 2) rfl, (rb.grown hu hne1).cell (j := 3) rfl⟩)
  have HR := (show Hid (∀ u, w2.grownBy u sv.ownBlock → Rd u vo x.2.2.1 ∧ Rd u vg x.2.2.2) from fun u hu => by
    have hb := hBw0.trans (grown_below hu hBw0.size hf)
    exact ⟨(ho.mv (Mv.below hb)).1, (hg.mv (Mv.below hb)).1⟩)
  have hdw : Below w2.heap.size w2 w2.drew := ⟨rfl, rfl, rfl, Nat.le_refl _, fun _ _ => rfl⟩
  have g2 : w2.grownBy w2.drew sv.ownBlock := grown_of_below hdw _
  have hn2 : ¬ (w.heap.size = w.heap.size + 1 + 1) := by omega
  have hn3 : ¬ (w.heap.size + 1 + 1 = w.heap.size) := by omega
  have HN1 := (show Hid (∀ _ : Unit, _) from fun _ => refNum_any w2.drew sv bad L x.1 hoL.drew (by omega))
  obtain ⟨⟨k0, k1⟩, k2, k3, k4, k5⟩ := HK.out w2 (grown_of_below (Below.refl _ _) _)
  have l1 := outI_len x.1
  have l2 := outI_len x.2.1
  have l3 := enc_len (x.2.2.1.length : Int)
  have HL2 := (show Hid ((L ++ cN.wr x.1).length ≤ 140737488355300) by show _ ≤ _; rw [List.length_append]; show L.length + (outI x.1).length ≤ _; omega)
  have HL3 := (show Hid (((L ++ cN.wr x.1) ++ cN.wr x.2.1).length ≤ 140730000000000) by show _ ≤ _; rw [List.length_append, List.length_append]; show L.length + (outI x.1).length + (outI x.2.1).length ≤ _; omega)
  have HL4 := (show Hid ((((L ++ cN.wr x.1) ++ cN.wr x.2.1) ++ cT.wr x.2.2.1).length ≤ 140730000000000) by show _ ≤ _; rw [List.length_append, List.length_append, List.length_append]; show L.length + (outI x.1).length + (outI x.2.1).length + (enc x.2.2.1.length ++ x.2.2.1).length ≤ _; have h9 : (enc x.2.2.1.length ++ x.2.2.1).length = (enc x.2.2.1.length).length + x.2.2.1.length := List.length_append; omega)
  go_enter Tryz.func163, Tryz.ntmps163
  go_upto_region 1 with fail
  rw [← hw2, ← hw3]
  clear hw2 hw3 hs2 l1 l2 l3 ho hg hown hB0 hl
  go_wp2_with fail
  go_region_held3 (fun u => (u.cell? ⟨w.heap.size, 0, none⟩ = some sv ∧ u.cell? ⟨w.heap.size, 1, none⟩ = some (.bool bad)) ∧ u.cell? ⟨w.heap.size + 1, 0, none⟩ = some (.int .i64 x.1) ∧ u.cell? ⟨w.heap.size + 1, 1, none⟩ = some (.int .i64 x.2.1) ∧ u.cell? ⟨w.heap.size + 1, 2, none⟩ = some vo ∧ u.cell? ⟨w.heap.size + 1, 3, none⟩ = some vg)
    (first | exact HK.out _ (by assumption) | go_keep)
    (first
      | (go_at_call 164; refine (refText_any w5 _ _ _ vg _ a5.own (HR.out w5 a5.grown').2 HL4.out h2).mono ?_; rintro e w6 ⟨v6, rfl, q6⟩; have a6 := a5.trans q6; have gg6 := a6.grown'; obtain ⟨ao6, n6, c6, rfl⟩ := own_slice a6.own; have rr6 := rr.grown gg6 hne2; have d0 := rr6.cell (j := 0) rfl; have d1 := rr6.cell (j := 1) rfl; have z0 := rr6.frozen 0; have z1 := rr6.frozen 1; have hS6 := HK.out w6 gg6)
      | (go_at_call 164; refine (refText_any w4 _ _ _ vo _ a4.own (HR.out w4 a4.grown').1 HL3.out h1).mono ?_; rintro e w5 ⟨v5, rfl, q5⟩; have a5 := a4.trans q5; have gg5 := a5.grown')
      | (go_at_call 131; refine (refNum_any w3 _ _ _ _ a3.own HL2.out).mono ?_; rintro e w4 ⟨v4, rfl, q4⟩; have a4 := a3.trans q4; have gg4 := a4.grown')
      | (go_at_call 131; refine (HN1.out ()).mono ?_; rintro e w3 ⟨v3, rfl, q3⟩; have a3 := App.pre hdw q3; have gg3 := a3.grown'))
  have hap := App.pre hB a6
  have ho := App.box hap (by omega) rr6 (.slice ao6 n6 c6) (.bool ((((bad || !cN.ok x.1) || !cN.ok x.2.1) || !cT.ok x.2.2.1) || !cT.ok x.2.2.2))
  have hr := (rr6.set 0 (.slice ao6 n6 c6)).set 1 (.bool ((((bad || !cN.ok x.1) || !cN.ok x.2.1) || !cT.ok x.2.2.1) || !cT.ok x.2.2.2))
  go_wp2_with fail
  refine bodyPost_ret (v := .agg ([.slice ao6 n6 c6, .bool ((((bad || !cN.ok x.1) || !cN.ok x.2.1) || !cT.ok x.2.2.1) || !cT.ok x.2.2.2)] : List Value).toArray) (results_cell_row rfl _ _ (w.heap.size + 2) _ _ (0, 0) _ (by rfl) hr Tryz.underlying157 rfl (by kernel_rfl)) rfl ?_
  refine OPost.end ho (by simp [cReq, cP, List.append_assoc]) (by simp [cReq, cP, Bool.or_assoc])
end
section
open Go.RowKit Oct
theorem bS_mem {α : Type} {f : α → Nat} : ∀ {ys : List α} {y : α}, y ∈ ys → f y ≤ bS f ys
  | z :: zs, y, h => by
    simp only [bS]
    cases List.mem_cons.1 h with
    | inl e => subst e; omega
    | inr e => have := bS_mem (f := f) e; omega
theorem wrN_len {α : Type} {c : Cdc α} {f : α → Nat} {k : Nat} (h : ∀ y, (c.wr y).length ≤ k * f y) : ∀ ys : List α, (wrN c ys).length ≤ k * bS f ys
  | [] => by simp [wrN]
  | y :: ys => by
    have h1 := h y
    have h2 := wrN_len h ys
    rw [wrN_cons, List.length_append]
    simp only [bS, Nat.mul_add]
    omega
theorem wrN_takes {α : Type} (c : Cdc α) (ys : List α) (q : Nat) : (wrN c (ys.take q)).length ≤ (wrN c ys).length := by
  have := congrArg List.length (wrN_app c (ys.take q) (ys.drop q))
  rw [List.take_append_drop, List.length_append] at this
  omega
theorem cT_len (t : List Int) : (cT.wr t).length ≤ 10 + t.length := by
  show (enc t.length ++ t).length ≤ _
  have := enc_len (t.length : Int)
  rw [List.length_append]
  omega
theorem cVote_len (y : PVote) : (cVote.wr y).length ≤ 20 * bV y := by
  show (outI y.1 ++ cT.wr y.2).length ≤ _
  have h1 := outI_len y.1
  have h2 := cT_len y.2
  rw [List.length_append]
  simp only [bV, bT]
  omega
/-- The list written so far. -/
def Lq {α : Type} (c : Cdc α) (L : List Int) (ys : List α) (q : Nat) : List Int := L ++ (outI ys.length ++ wrN c (ys.take q))
def Bq {α : Type} (c : Cdc α) (bad : Bool) (ys : List α) (q : Nat) : Bool := (bad || !cMn.ok (ys.length : Int)) || !((ys.take q).all c.ok)
theorem Lq_zero {α : Type} (c : Cdc α) (L : List Int) (ys : List α) : L ++ cMn.wr (ys.length : Int) = Lq c L ys 0 := by
  show L ++ outI _ = L ++ (outI _ ++ wrN c (ys.take 0))
  simp [wrN]
theorem Bq_zero {α : Type} (c : Cdc α) (bad : Bool) (ys : List α) : (bad || !cMn.ok (ys.length : Int)) = Bq c bad ys 0 := by simp [Bq]
theorem Lq_succ {α : Type} (c : Cdc α) (L : List Int) (ys : List α) {q : Nat} {a : α} (h : ys[q]? = some a) : Lq c L ys q ++ c.wr a = Lq c L ys (q + 1) := by
  unfold Lq
  rw [take_snoc' ys q a h, wrN_app, wrN_one]
  simp [List.append_assoc]
theorem Bq_succ {α : Type} (c : Cdc α) (bad : Bool) (ys : List α) {q : Nat} {a : α} (h : ys[q]? = some a) : (Bq c bad ys q || !c.ok a) = Bq c bad ys (q + 1) := by
  unfold Bq
  rw [take_snoc' ys q a h, List.all_append]
  simp [Bool.or_assoc]
theorem Lq_all {α : Type} (c : Cdc α) (L : List Int) (ys : List α) : Lq c L ys ys.length = L ++ (cL c).wr ys := by simp [Lq, cL]
theorem Bq_all {α : Type} (c : Cdc α) (bad : Bool) (ys : List α) (h : ys.length ≤ 2147483647) : Bq c bad ys ys.length = (bad || !(cL c).ok ys) := by
  have h1 : okI (ys.length : Int) = true := okI_yes (by omega) (by omega)
  have h2 : decide ((ys.length : Int) ≤ 64) = decide (ys.length ≤ 64) := by rw [decide_eq_decide]; omega
  simp only [Bq, List.take_length, cL, cMn, h1, Bool.true_and, h2]
  simp [Bool.or_assoc]
theorem Lq_len {α : Type} (c : Cdc α) {f : α → Nat} (h : ∀ y, (c.wr y).length ≤ 20 * f y) (L : List Int) (ys : List α) (q : Nat) : (Lq c L ys q).length ≤ L.length + 20 * bL f ys := by
  unfold Lq
  have h1 := outI_len (ys.length : Int)
  have h2 := wrN_takes c ys q
  have h3 := wrN_len h ys
  rw [List.length_append, List.length_append]
  simp only [bL, Nat.mul_add]
  omega
theorem len_bS {α : Type} {f : α → Nat} (h : ∀ y, 1 ≤ f y) : ∀ ys : List α, ys.length ≤ bS f ys
  | [] => Nat.le_refl _
  | y :: ys => by have := h y; have := len_bS h ys; simp only [bS, List.length_cons]; omega
set_option maxRecDepth 10000 in
set_option maxHeartbeats 4000000 in
theorem refVotes_any (w0 w : World) (sv : Value) (bad : Bool) (L : List Int) (lv : Value) (ys : List PVote) (hB0 : Below w0.heap.size w0 w) (hf : Fr w0.heap.size sv) (hown : Own w 5 sv (bc L)) (hr : RL RVote 2 Any w0 lv ys) (hl : L.length + bL bV ys * 20 ≤ 140720000000000) (hz : bL bV ys ≤ 2000000) :
    Calls Tryz.prog 165 #[.agg #[sv, .bool bad], lv] w (OPost (cL cVote) ys w sv bad L) := by
  obtain ⟨ao, cap, rfl, hcap⟩ := hr.form
  obtain ⟨w2, hw2⟩ : ∃ w2, w2 = (w.alloc (.cells #[sv, .bool bad] 157)).alloc (.cells #[.slice none 0 0, .bool false] 157) := ⟨_, rfl⟩
  have ra : Row w2 w.heap.size 157 [sv, .bool bad] := by rw [hw2]; exact row_alloc (Row.new w _ _) _
  have rr : Row w2 (w.heap.size + 1) 157 [.slice none 0 0, .bool false] := by
    rw [hw2]
    have := Row.new (w.alloc (.cells #[sv, .bool bad] 157)) 157 [.slice none 0 0, .bool false]
    simpa using this
  have hB : Below w.heap.size w w2 := by rw [hw2]; exact ((Below.refl _ w).alloc (Nat.le_refl _) _).alloc (by simp) _
  have hoL := hown.below hB
  have hne1 := own_row_ne ra hoL (by decide)
  have hne2 := own_row_ne rr hoL (by decide)
  have c0 := ra.cell (j := 0) rfl
  have c1 := ra.cell (j := 1) rfl
  have hM := refMany_any w2 sv bad L (ys.length : Int) hoL (by omega)
  go_enter Tryz.func165, Tryz.ntmps165
  go_upto_region 1 with fail
  rw [← hw2]
  clear hw2
  go_wp2_with fail
  refine hM.mono ?_
  rintro e w3 ⟨v3, rfl, happ3⟩
  obtain ⟨ao3, n3, k3, rfl⟩ := own_slice happ3.own
  have ra3 := ra.grown happ3.grown hne1
  have rr3 := rr.grown happ3.grown hne2
  have hap3 := App.pre hB happ3
  clear hM c0 c1 happ3 ra rr hown hoL
  go_wp2_with (refine wl_store rfl _ _ _ rfl w.heap.size [.slice ao3 n3 k3, .bool (bad || !cMn.ok (ys.length : Int))] rfl rfl _ _ ra3 rfl (by kernel_rfl) one2b ?_; intro w4 hr4 hg4)
  have hr4 := hr4.out
  have rr4 := rr3.grown hg4 (fun e => by injection e; omega)
  have ha4 := App.after hap3 (Nat.le_refl _) hg4 (own_row_ne ra3 hap3.own (by decide))
  rw [Lq_zero cVote] at ha4
  rw [Bq_zero cVote] at hr4
  have hlen := len_bS (f := bV) (fun y => by simp only [bV]; omega) ys
  have hlz : ys.length ≤ 2000000 := by simp only [bL] at hz; omega
  have HX := (show Hid (0 < ys.length → ∃ b off, ao = some ⟨b, off, none⟩ ∧ b < w0.heap.size ∧ ∀ (i : Nat) (a : PVote), ys[i]? = some a → ∃ r, r.length = 2 ∧ w0.rangeAt b (off + i * 2) r ∧ RVote Any w0 r a) from fun h0 => by
    obtain ⟨b, off, c', e, _, _, _, hbb, hx⟩ := hr.at h0
    injection e with e1 e2 e3
    exact ⟨b, off, e1, hbb, hx⟩)
  have HLE := (show Hid (∀ q, (Lq cVote L ys q).length ≤ 140720000000000) from fun q => by have := Lq_len cVote cVote_len L ys q; omega)
  have HZ := (show Hid (∀ y ∈ ys, y.2.length ≤ 2147483647) from fun y hy => by have := bS_mem (f := bV) hy; simp only [bV, bT] at this; simp only [bL] at hz; omega)
  have HBA := (show Hid (Bq cVote bad ys ys.length = (bad || !(cL cVote).ok ys)) from Bq_all _ _ _ (by omega))
  clear hap3 ra3 rr3 hg4 hr hlen hl hz hB hne1 hne2
  generalize Value.agg #[Value.slice ao3 n3 k3, Value.bool (bad || !cMn.ok (ys.length : Int))] = junk at *
  go_loopw [13] (fun i wr => ∃ (q : Nat) (ak : Option Addr) (nk ck : Nat), q ≤ ys.length ∧ i = .int .i64 q ∧ Row wr w.heap.size 157 [.slice ak nk ck, .bool (Bq cVote bad ys q)] ∧ Row wr (w.heap.size + 1) 157 [.slice none 0 0, .bool false] ∧ App w 5 sv wr (.slice ak nk ck) (bc (Lq cVote L ys q))) (fun i _ => ys.length - (intOf i).toNat)
  case atStart => exact ⟨0, ao3, n3, k3, by omega, rfl, hr4, rr4, ha4⟩
  case round =>
    clear hr4 rr4 ha4
    obtain ⟨q, ak, nk, ck, hq, rfl, ra5, rr5, ha5⟩ := hrel
    by_cases hql : q < ys.length
    · obtain ⟨b, off, rfl, hbb, hx⟩ := HX.out (by omega)
      obtain ⟨a, ha⟩ : ∃ a, ys[q]? = some a := ⟨_, List.getElem?_eq_getElem hql⟩
      obtain ⟨r, _, hrng, s, rfl, hs⟩ := hx q a ha
      have hz' := HZ.out a (List.mem_of_getElem? ha)
      have hBr := hB0.trans (ha5.below hf hB0.size)
      have hrng := rangeAt_block hrng (hBr.block b hbb)
      have hso := hs.one
      obtain ⟨so, sc, rfl, _⟩ := hs.form
      have hrow0 := Row.new wr 42 [.int .i64 0, .slice none 0 0]
      have HSL := (show Hid (Lq cVote L ys q ++ cVote.wr a = Lq cVote L ys (q + 1)) from Lq_succ _ _ _ ha)
      have HSB := (show Hid ((Bq cVote bad ys q || !cVote.ok a) = Bq cVote bad ys (q + 1)) from Bq_succ _ _ _ ha)
      clear ha hx
      go_wp2_with (first
        | (refine wpList_load_mid rfl _ _ rfl b (off + q * 2) rfl [.int .i64 a.1, .slice so a.2.length sc] _ hrng Tryz.underlying42 rfl (by kernel_rfl) ?_)
        | (refine wl_store rfl _ _ _ rfl wr.heap.size [.int .i64 a.1, .slice so a.2.length sc] rfl rfl _ _ hrow0 rfl (by kernel_rfl) (one2 hso) ?_; intro w5 hr5 hg5))
      have hb5 : Below wr.heap.size wr w5 := (below_alloc wr (.cells ([.int .i64 0, .slice none 0 0] : List Value).toArray 42)).trans (grown_below hg5 (by simp) (fun k hk => by cases hk; exact Nat.le_refl _))
      have rv := hr5.out
      have ra6 := ra5.below hb5
      have rr6 := rr5.below hb5
      have hB5 := below_and hBr (Nat.le_refl _) hb5
      have ho5 := ha5.own.below hb5
      have ha5' : App w 5 sv w5 (.slice ak nk ck) (bc (Lq cVote L ys q)) := ⟨ho5, grown_trans ha5.grown (grown_of_below hb5 none) (.inr fun k hk => by cases hk), ha5.spot⟩
      have hf5 : Fr w0.heap.size (.slice ak nk ck) := ha5.fr hf hB0.size
      have hn0 := own_row_ne ra6 ho5 (by decide)
      have hn1 := own_row_ne rr6 ho5 (by decide)
      have hnv := own_row_ne rv ho5 (by decide)
      have hdw : Below w5.heap.size w5 w5.drew := ⟨rfl, rfl, rfl, Nat.le_refl _, fun _ _ => rfl⟩
      have p0 := ra6.cell (j := 0) rfl
      have p1 := ra6.cell (j := 1) rfl
      have p2 := rv.cell (j := 0) rfl
      have p3 := rv.cell (j := 1) rfl
      have HN := (show Hid (∀ _ : Unit, _) from fun _ => refNum_any w5.drew (.slice ak nk ck) (Bq cVote bad ys q) (Lq cVote L ys q) a.1 ho5.drew (Nat.le_trans (HLE.out q) (by decide)))
      have HLn := (show Hid ((Lq cVote L ys q ++ cN.wr a.1).length ≤ 140730000000000) by show _ ≤ _; have := HLE.out q; have h9 := outI_len a.1; rw [List.length_append]; show _ + (outI a.1).length ≤ _; omega)
      have HRD := (show Hid (∀ u, w5.grownBy u (Value.slice ak nk ck).ownBlock → Rd u (.slice so a.2.length sc) a.2) from fun u hu => ((hs.mv (Mv.below (hB5.trans (grown_below hu hB5.size hf5)))).1))
      clear hrng hrow0 hg5 hr5 ra5 rr5 ha5 hs hb5
      go_wp2_with fail
      go_region_law (first
        | (go_simp; go_at_call 164; refine (refText_any w6 _ _ _ _ _ a6.own (HRD.out w6 a6.grown) HLn.out hz').mono ?_; rintro e w7 ⟨v7, rfl, q7⟩; have a7 := a6.trans q7; obtain ⟨ao7, n7, c7, rfl⟩ := own_slice a7.own; have ra7 := ra6.grown a7.grown hn0; have d0 := ra7.cell (j := 0) rfl; have d1 := ra7.cell (j := 1) rfl; have z0 := ra7.frozen 0; have z1 := ra7.frozen 1)
        | (go_simp; go_at_call 131; refine (HN.out ()).mono ?_; rintro e w6 ⟨v6, rfl, q6⟩; have a6 := App.pre hdw q6; have p4 := (rv.grown a6.grown hnv).cell (j := 1) rfl))
      all_goals (
        have e1 : (Lq cVote L ys q ++ cN.wr a.1) ++ cT.wr a.2 = Lq cVote L ys (q + 1) := by rw [← HSL.out, List.append_assoc]; rfl
        have e2 : ((Bq cVote bad ys q || !cN.ok a.1) || !cT.ok a.2) = Bq cVote bad ys (q + 1) := by rw [← HSB.out]; simp [cVote, cP, Bool.or_assoc]
        have hb7 := App.box (ha5'.trans a7) (Nat.le_refl _) ra7 (.slice ao7 n7 c7) (.bool ((Bq cVote bad ys q || !cN.ok a.1) || !cT.ok a.2))
        have hr7 := (ra7.set 0 (.slice ao7 n7 c7)).set 1 (.bool ((Bq cVote bad ys q || !cN.ok a.1) || !cT.ok a.2))
        have rr7 := (((rr6.grown a7.grown hn1).grown (grown_set w7 w.heap.size 0 (.slice ao7 n7 c7)) (fun e => by injection e; omega)).grown (grown_set (w7.setCell ⟨w.heap.size, 0, none⟩ (.slice ao7 n7 c7)) w.heap.size 1 (.bool ((Bq cVote bad ys q || !cN.ok a.1) || !cT.ok a.2))) (fun e => by injection e; omega))
        rw [e1] at hb7
        have HR := (show Hid (Row _ w.heap.size 157 [.slice ao7 n7 c7, .bool ((Bq cVote bad ys q || !cN.ok a.1) || !cT.ok a.2)]) from hr7)
        rw [e2] at hb7 HR rr7 ⊢
        clear hr7 e1 e2 p0 p1 p2 p3
        go_wp2_with fail
        go_roundw
        case rel => exact ⟨q + 1, ao7, n7, c7, by omega, by go_num, HR.out, rr7, hb7⟩
        case measure => simp [intOf]; omega)
    · obtain rfl : q = ys.length := by omega
      rw [HBA.out] at ra5
      rw [Lq_all] at ha5
      go_wp2_with (first
        | (refine wl_load rfl _ _ rfl w.heap.size rfl _ _ ra5 _ Tryz.underlying157 rfl (by kernel_rfl) ?_)
        | (refine wl_store rfl _ _ _ rfl (w.heap.size + 1) [.slice ak nk ck, .bool (bad || !(cL cVote).ok ys)] rfl rfl _ _ rr5 rfl (by kernel_rfl) one2b ?_; intro w6 hr6 hg6))
      have hr6 := hr6.out
      refine bodyPost_ret (v := .agg ([.slice ak nk ck, .bool (bad || !(cL cVote).ok ys)] : List Value).toArray) (results_cell_row rfl _ _ (w.heap.size + 1) _ _ (0, 0) _ (by rfl) hr6 Tryz.underlying157 rfl (by kernel_rfl)) rfl ?_
      exact ⟨_, rfl, App.after ha5 (Nat.le_succ _) hg6 (own_row_ne rr5 ha5.own (by decide))⟩
end
section
open Go.RowKit Oct
theorem cReq_len (y : PReq) : (cReq.wr y).length ≤ 20 * bQ y := by
  show (outI y.1 ++ (outI y.2.1 ++ (cT.wr y.2.2.1 ++ cT.wr y.2.2.2))).length ≤ _
  have h1 := outI_len y.1
  have h2 := outI_len y.2.1
  have h3 := cT_len y.2.2.1
  have h4 := cT_len y.2.2.2
  simp only [List.length_append, bQ, bT]
  omega
theorem cL_len {α : Type} (c : Cdc α) {f : α → Nat} (h : ∀ y, (c.wr y).length ≤ 20 * f y) (ys : List α) : ((cL c).wr ys).length ≤ 20 * bL f ys := by
  have := Lq_len c h [] ys ys.length
  rw [Lq_all] at this
  simpa using this
theorem cPrep_len (y : PPrep) : (cPrep.wr y).length ≤ 20 * bP y := by
  show (outI y.1 ++ ((outI y.2.1.1 ++ outI y.2.1.2) ++ (cReq.wr y.2.2.1 ++ (cL cVote).wr y.2.2.2))).length ≤ _
  have h1 := outI_len y.1
  have h2 := outI_len y.2.1.1
  have h3 := outI_len y.2.1.2
  have h4 := cReq_len y.2.2.1
  have h5 := cL_len cVote cVote_len y.2.2.2
  simp only [List.length_append, bP]
  omega
theorem set2_keepN {u : World} {b : Nat} {x y v : Value} {a : Addr} (h : u.cell? a = some v) (hn : ¬ (a.block = b)) : ((u.setCell ⟨b, 0, none⟩ x).setCell ⟨b, 1, none⟩ y).cell? a = some v := by
  have hg : u.grownBy ((u.setCell ⟨b, 0, none⟩ x).setCell ⟨b, 1, none⟩ y) (some b) := grown_trans (grown_set u b 0 x) (grown_set _ b 1 y) (.inl rfl)
  rw [World.cell?_of_block (w := u) (w' := (u.setCell ⟨b, 0, none⟩ x).setCell ⟨b, 1, none⟩ y) (a := a) (hg.block a.block (World.block_lt_of_cell? u a h) (fun e => hn (Option.some.inj e)))]
  exact h
theorem cN_len (n : Int) : (cN.wr n).length ≤ 10 := by
  have := outI_len n
  show (outI n).length ≤ 10
  omega
theorem cT_b (t : List Int) : (cT.wr t).length ≤ 20 * bT t := by
  have := cT_len t
  simp only [bT]
  omega
set_option maxRecDepth 10000 in
set_option maxHeartbeats 4000000 in
theorem refReport_any (w0 w : World) (sv : Value) (bad : Bool) (L : List Int) (r : List Value) (x : PRep) (hB0 : Below w0.heap.size w0 w) (hf : Fr w0.heap.size sv) (hown : Own w 5 sv (bc L)) (hr : RRep Any w0 r x) (hl : L.length + bR x * 20 ≤ 140719000000000) (hz : bR x ≤ 2000000) :
    Calls Tryz.prog 167 #[.agg #[sv, .bool bad], .agg r.toArray] w (OPost cRep x w sv bad L) := by
  obtain ⟨vd, vs, vp, vg, rfl, hd, hs, hp, hg⟩ := hr
  obtain ⟨apv, cpv, rfl, hcpv⟩ := hp.form
  obtain ⟨a2, hw2⟩ : ∃ a2, a2 = (w.alloc (.cells #[sv, .bool bad] 157)).alloc (.cells #[.int .i64 x.1.1, .int .i64 x.1.2, .int .i64 x.2.1, .int .i64 x.2.2.1, vd, vs, .slice apv x.2.2.2.2.2.1.length cpv, vg] 28) := ⟨_, rfl⟩
  obtain ⟨w2, hw3⟩ : ∃ w2, w2 = a2.alloc (.cells #[.slice none 0 0, .bool false] 157) := ⟨_, rfl⟩
  have hs2 : a2.heap.size = w.heap.size + 2 := by rw [hw2]; simp
  have ra' : Row a2 w.heap.size 157 [sv, .bool bad] := by rw [hw2]; exact row_alloc (Row.new w _ _) _
  have rb' : Row a2 (w.heap.size + 1) 28 [.int .i64 x.1.1, .int .i64 x.1.2, .int .i64 x.2.1, .int .i64 x.2.2.1, vd, vs, .slice apv x.2.2.2.2.2.1.length cpv, vg] := by
    rw [hw2]
    have := Row.new (w.alloc (.cells #[sv, .bool bad] 157)) 28 [.int .i64 x.1.1, .int .i64 x.1.2, .int .i64 x.2.1, .int .i64 x.2.2.1, vd, vs, .slice apv x.2.2.2.2.2.1.length cpv, vg]
    simpa using this
  have ra : Row w2 w.heap.size 157 [sv, .bool bad] := by rw [hw3]; exact row_alloc ra' _
  have rb : Row w2 (w.heap.size + 1) 28 [.int .i64 x.1.1, .int .i64 x.1.2, .int .i64 x.2.1, .int .i64 x.2.2.1, vd, vs, .slice apv x.2.2.2.2.2.1.length cpv, vg] := by rw [hw3]; exact row_alloc rb' _
  have rr : Row w2 (w.heap.size + 2) 157 [.slice none 0 0, .bool false] := by
    rw [hw3, ← hs2]
    exact Row.new a2 _ _
  have hB : Below w.heap.size w w2 := by rw [hw3, hw2]; exact (((Below.refl _ w).alloc (Nat.le_refl _) _).alloc (by simp) _).alloc (by simp; omega) _
  clear ra' rb'
  obtain ⟨ao, no, co, rfl⟩ := own_slice hown
  have ap : App w 5 (.slice ao no co) w2 (.slice ao no co) (bc L) := ⟨hown.below hB, grown_of_below hB _, .inl rfl⟩
  have e0 : L.length + 20 * bR x ≤ 140719000000000 := by omega
  have HRT := (show Hid (∀ u, Below w0.heap.size w0 u → Rd u vd x.2.2.2.1 ∧ Rd u vg x.2.2.2.2.2.2) from fun u hu => ⟨(hd.mv (Mv.below hu)).1, (hg.mv (Mv.below hu)).1⟩)
  have HVS := (show Hid (RL RVote 2 Any w0 vs x.2.2.2.2.1) from hs)
  have HVP := (show Hid (RL RPrep 8 Any w0 (.slice apv x.2.2.2.2.2.1.length cpv) x.2.2.2.2.2.1) from hp)
  have hbs : bT x.2.2.2.1 + bL bV x.2.2.2.2.1 + bL bP x.2.2.2.2.2.1 + bT x.2.2.2.2.2.2 + 6 ≤ 2000000 := by simp only [bR] at hz; omega
  have e0' : L.length + 20 * (bT x.2.2.2.1 + bL bV x.2.2.2.2.1 + bL bP x.2.2.2.2.2.1 + bT x.2.2.2.2.2.2 + 6) ≤ 140719000000000 := by simp only [bR] at e0; omega
  have t1 : x.2.2.2.1.length ≤ 2147483647 := by simp only [bT] at hbs; omega
  have t2 : x.2.2.2.2.2.2.length ≤ 2147483647 := by simp only [bT] at hbs; omega
  go_enter Tryz.func167, Tryz.ntmps167
  go_upto_region 1 with fail
  rw [← hw2, ← hw3]
  clear hw2 hw3 hs2 hd hs hp hg hown hl hz e0
  have hdw : Below w2.heap.size w2 w2.drew := ⟨rfl, rfl, rfl, Nat.le_refl _, fun _ _ => rfl⟩
  have ho := ap.own
  have hne0 := own_row_ne ra ho (by decide)
  have hne1 := own_row_ne rb ho (by decide)
  have hne2 := own_row_ne rr ho (by decide)
  have HK := (show Hid (∀ u, w2.grownBy u (Value.slice ao no co).ownBlock → u.cell? ⟨w.heap.size + 1, 0, none⟩ = some (.int .i64 x.1.1) ∧ u.cell? ⟨w.heap.size + 1, 1, none⟩ = some (.int .i64 x.1.2) ∧ u.cell? ⟨w.heap.size + 1, 2, none⟩ = some (.int .i64 x.2.1) ∧ u.cell? ⟨w.heap.size + 1, 3, none⟩ = some (.int .i64 x.2.2.1)) from fun u hu => ⟨(rb.grown hu hne1).cell (j := 0) rfl, (rb.grown hu hne1).cell (j := 1) rfl, (rb.grown hu hne1).cell (j := 2) rfl, (rb.grown hu hne1).cell (j := 3) rfl⟩)
  have gd : w2.grownBy w2.drew (Value.slice ao no co).ownBlock := grown_of_below hdw _
  have k0 := ra.cell (j := 0) rfl
  have k1 := ra.cell (j := 1) rfl
  have HL0 := (show Hid (L.length ≤ 140720000000000) by show _ ≤ _; omega)
  have HL1 := (show Hid ((L ++ cN.wr x.1.1).length ≤ 140720000000000) by show _ ≤ _; simp only [List.length_append]; have := cN_len x.1.1; have := cN_len x.1.2; have := cN_len x.2.1; have := cN_len x.2.2.1; omega)
  have HL2 := (show Hid (((L ++ cN.wr x.1.1) ++ cN.wr x.1.2).length ≤ 140720000000000) by show _ ≤ _; simp only [List.length_append]; have := cN_len x.1.1; have := cN_len x.1.2; have := cN_len x.2.1; have := cN_len x.2.2.1; omega)
  have HL3 := (show Hid ((((L ++ cN.wr x.1.1) ++ cN.wr x.1.2) ++ cN.wr x.2.1).length ≤ 140720000000000) by show _ ≤ _; simp only [List.length_append]; have := cN_len x.1.1; have := cN_len x.1.2; have := cN_len x.2.1; have := cN_len x.2.2.1; omega)
  go_wp2_with fail
  refine wp_region_held_drew (S := fun u => u.cell? ⟨w.heap.size + 1, 0, none⟩ = some (.int .i64 x.1.1) ∧ u.cell? ⟨w.heap.size + 1, 1, none⟩ = some (.int .i64 x.1.2) ∧ u.cell? ⟨w.heap.size + 1, 2, none⟩ = some (.int .i64 x.2.1) ∧ u.cell? ⟨w.heap.size + 1, 3, none⟩ = some (.int .i64 x.2.2.1)) (by kernel_rfl) (HK.out _ gd) (fun hHeld => ?_)
  refine wpAnyH_take (i := 1) (v := (.pointer (some ⟨w.heap.size + 1, 0, none⟩))) rfl (by kernel_rfl) (by kernel_rfl) (by kernel_rfl) (fun _ _ _ h => h) (Or.inl ⟨by rfl, fun u hSu => by (try dsimp only at hSu); go_simp⟩) (by assumption) ?_
  simp only [Act.put, List.setIfInBounds_toArray, List.set_cons_zero, List.set_cons_succ]
  refine wpAnyH_take (i := 2) (v := (.pointer (some ⟨w.heap.size + 1, 0, none⟩))) rfl (by kernel_rfl) (by kernel_rfl) (by kernel_rfl) (fun _ _ _ h => h) (Or.inl ⟨by rfl, fun u hSu => by (try dsimp only at hSu); go_simp⟩) (by assumption) ?_
  simp only [Act.put, List.setIfInBounds_toArray, List.set_cons_zero, List.set_cons_succ]
  refine wpAnyH_take (i := 3) (v := (.int .i64 x.1.1)) rfl (by kernel_rfl) (by kernel_rfl) (by kernel_rfl) (fun _ _ _ h => h) (Or.inl ⟨by rfl, fun u hSu => by (try dsimp only at hSu); go_simp⟩) (by assumption) ?_
  simp only [Act.put, List.setIfInBounds_toArray, List.set_cons_zero, List.set_cons_succ]
  refine wpAnyH_take (i := 5) (v := (.pointer (some ⟨w.heap.size + 1, 0, none⟩))) rfl (by kernel_rfl) (by kernel_rfl) (by kernel_rfl) (fun _ _ _ h => h) (Or.inl ⟨by rfl, fun u hSu => by (try dsimp only at hSu); go_simp⟩) (by assumption) ?_
  simp only [Act.put, List.setIfInBounds_toArray, List.set_cons_zero, List.set_cons_succ]
  refine wpAnyH_take (i := 6) (v := (.pointer (some ⟨w.heap.size + 1, 1, none⟩))) rfl (by kernel_rfl) (by kernel_rfl) (by kernel_rfl) (fun _ _ _ h => h) (Or.inl ⟨by rfl, fun u hSu => by (try dsimp only at hSu); go_simp⟩) (by assumption) ?_
  simp only [Act.put, List.setIfInBounds_toArray, List.set_cons_zero, List.set_cons_succ]
  refine wpAnyH_take (i := 7) (v := (.int .i64 x.1.2)) rfl (by kernel_rfl) (by kernel_rfl) (by kernel_rfl) (fun _ _ _ h => h) (Or.inl ⟨by rfl, fun u hSu => by (try dsimp only at hSu); go_simp⟩) (by assumption) ?_
  simp only [Act.put, List.setIfInBounds_toArray, List.set_cons_zero, List.set_cons_succ]
  refine wpAnyH_take (i := 9) (v := (.pointer (some ⟨w.heap.size + 1, 2, none⟩))) rfl (by kernel_rfl) (by kernel_rfl) (by kernel_rfl) (fun _ _ _ h => h) (Or.inl ⟨by rfl, fun u hSu => by (try dsimp only at hSu); go_simp⟩) (by assumption) ?_
  simp only [Act.put, List.setIfInBounds_toArray, List.set_cons_zero, List.set_cons_succ]
  refine wpAnyH_take (i := 10) (v := (.int .i64 x.2.1)) rfl (by kernel_rfl) (by kernel_rfl) (by kernel_rfl) (fun _ _ _ h => h) (Or.inl ⟨by rfl, fun u hSu => by (try dsimp only at hSu); go_simp⟩) (by assumption) ?_
  simp only [Act.put, List.setIfInBounds_toArray, List.set_cons_zero, List.set_cons_succ]
  refine wpAnyH_take (i := 12) (v := (.pointer (some ⟨w.heap.size + 1, 3, none⟩))) rfl (by kernel_rfl) (by kernel_rfl) (by kernel_rfl) (fun _ _ _ h => h) (Or.inl ⟨by rfl, fun u hSu => by (try dsimp only at hSu); go_simp⟩) (by assumption) ?_
  simp only [Act.put, List.setIfInBounds_toArray, List.set_cons_zero, List.set_cons_succ]
  refine wpAnyH_take (i := 13) (v := (.int .i64 x.2.2.1)) rfl (by kernel_rfl) (by kernel_rfl) (by kernel_rfl) (fun _ _ _ h => h) (Or.inl ⟨by rfl, fun u hSu => by (try dsimp only at hSu); go_simp⟩) (by assumption) ?_
  simp only [Act.put, List.setIfInBounds_toArray, List.set_cons_zero, List.set_cons_succ]
  refine wpAnyH_ready (rs := [0]) (by kernel_rfl) (by simp) ?_
  refine AllReadyH.cons (o := _) rfl (fun K hK => ?_) AllReadyH.nil
  go_simp
  refine hK.out _ _ (HK.out _ gd) (fun hHeld => ?_)
  clear hK K
  refine wpAnyH_ready (rs := [4]) (by kernel_rfl) (by simp) ?_
  refine AllReadyH.cons (o := _) rfl (fun K hK => ?_) AllReadyH.nil
  go_simp
  refine (refNum_any w2.drew _ _ _ x.1.1 ho.drew (Nat.le_trans HL0.out (by decide))).mono ?_
  rintro e w1_1 ⟨v1_1, rfl, q1_1⟩
  have a1_1 := App.pre hdw q1_1
  try go_simp
  refine hK.out _ _ (HK.out _ a1_1.grown) (fun hHeld => ?_)
  clear hK K
  refine wpAnyH_ready (rs := [8]) (by kernel_rfl) (by simp) ?_
  refine AllReadyH.cons (o := _) rfl (fun K hK => ?_) AllReadyH.nil
  go_simp
  refine (refNum_any w1_1 _ _ _ x.1.2 a1_1.own (Nat.le_trans HL1.out (by decide))).mono ?_
  rintro e w1_2 ⟨v1_2, rfl, q1_2⟩
  have a1_2 := a1_1.trans q1_2
  try go_simp
  refine hK.out _ _ (HK.out _ a1_2.grown) (fun hHeld => ?_)
  clear hK K
  refine wpAnyH_ready (rs := [11]) (by kernel_rfl) (by simp) ?_
  refine AllReadyH.cons (o := _) rfl (fun K hK => ?_) AllReadyH.nil
  go_simp
  refine (refNum_any w1_2 _ _ _ x.2.1 a1_2.own (Nat.le_trans HL2.out (by decide))).mono ?_
  rintro e w1_3 ⟨v1_3, rfl, q1_3⟩
  have a1_3 := a1_2.trans q1_3
  try go_simp
  refine hK.out _ _ (HK.out _ a1_3.grown) (fun hHeld => ?_)
  clear hK K
  refine wpAnyH_ready (rs := [14]) (by kernel_rfl) (by simp) ?_
  refine AllReadyH.cons (o := _) rfl (fun K hK => ?_) AllReadyH.nil
  go_simp
  refine (refNum_any w1_3 _ _ _ x.2.2.1 a1_3.own (Nat.le_trans HL3.out (by decide))).mono ?_
  rintro e w1_4 ⟨v1_4, rfl, q1_4⟩
  have a1_4 := a1_3.trans q1_4
  have gg := a1_4.grown'
  obtain ⟨ao1, n1, c1, rfl⟩ := own_slice a1_4.own
  have ra' := ra.grown gg hne0
  have d0 := ra'.cell (j := 0) rfl
  have d1 := ra'.cell (j := 1) rfl
  have z0 := ra'.frozen 0
  have z1 := ra'.frozen 1
  try go_simp
  refine hK.out _ _ (HK.out _ a1_4.grown) (fun hHeld => ?_)
  clear hK K
  refine wpAnyH_ready (rs := [15]) (by kernel_rfl) (by simp) ?_
  refine AllReadyH.cons (o := _) rfl (fun K hK => ?_) AllReadyH.nil
  go_simp
  refine hK.out _ _ ⟨set2_keepN (HK.out w1_4 gg).1 (by show ¬ (w.heap.size + 1 = w.heap.size); omega), set2_keepN (HK.out w1_4 gg).2.1 (by show ¬ (w.heap.size + 1 = w.heap.size); omega), set2_keepN (HK.out w1_4 gg).2.2.1 (by show ¬ (w.heap.size + 1 = w.heap.size); omega), set2_keepN (HK.out w1_4 gg).2.2.2 (by show ¬ (w.heap.size + 1 = w.heap.size); omega)⟩ (fun hHeld => ?_)
  clear hK K
  refine wpAnyH_done (by kernel_rfl) ?_ _
  clear hHeld
  have gs : w1_4.grownBy ((w1_4.setCell ⟨w.heap.size, 0, none⟩ (.slice ao1 n1 c1)).setCell ⟨w.heap.size, 1, none⟩ (.bool ((((bad || !cN.ok x.1.1) || !cN.ok x.1.2) || !cN.ok x.2.1) || !cN.ok x.2.2.1))) (some w.heap.size) := grown_trans (grown_set _ _ _ _) (grown_set _ _ _ _) (.inl rfl)
  have ap' := App.box (ap.trans a1_4) (Nat.le_refl _) ra' (.slice ao1 n1 c1) (.bool ((((bad || !cN.ok x.1.1) || !cN.ok x.1.2) || !cN.ok x.2.1) || !cN.ok x.2.2.1))
  have ra'' : Row _ w.heap.size 157 [.slice ao1 n1 c1, .bool ((((bad || !cN.ok x.1.1) || !cN.ok x.1.2) || !cN.ok x.2.1) || !cN.ok x.2.2.1)] := (ra'.set 0 (.slice ao1 n1 c1)).set 1 (.bool ((((bad || !cN.ok x.1.1) || !cN.ok x.1.2) || !cN.ok x.2.1) || !cN.ok x.2.2.1))
  have rb' := (rb.grown gg hne1).grown gs (fun e => by injection e with e; omega)
  have rr' := (rr.grown gg hne2).grown gs (fun e => by injection e with e; omega)
  clear hdw ho hne0 hne1 hne2 HK gd k0 k1 gg ra' d0 d1 z0 z1 gs ap ra rb rr
  generalize hX : ((((L ++ cN.wr x.1.1) ++ cN.wr x.1.2) ++ cN.wr x.2.1) ++ cN.wr x.2.2.1) = X1 at ap'
  generalize hb : ((((bad || !cN.ok x.1.1) || !cN.ok x.1.2) || !cN.ok x.2.1) || !cN.ok x.2.2.1) = b1 at *
  have HX1 := (show Hid (((((L ++ cN.wr x.1.1) ++ cN.wr x.1.2) ++ cN.wr x.2.1) ++ cN.wr x.2.2.1) = X1) from hX)
  have HB1 := (show Hid (((((bad || !cN.ok x.1.1) || !cN.ok x.1.2) || !cN.ok x.2.1) || !cN.ok x.2.2.1) = b1) from hb)
  have lx1 : X1.length ≤ L.length + 40 := by rw [← hX]; simp only [List.length_append]; have := cN_len x.1.1; have := cN_len x.1.2; have := cN_len x.2.1; have := cN_len x.2.2.1; omega
  clear hX hb
  generalize (w1_4.setCell ⟨w.heap.size, 0, none⟩ (.slice ao1 n1 c1)).setCell ⟨w.heap.size, 1, none⟩ (.bool b1) = w3 at *
  have ap := ap'
  have ra := ra''
  have rb := rb'
  have rr := rr'
  clear ap' ra'' rb' rr'
  have HV2 := (show Hid ((X1 ++ cT.wr x.2.2.2.1).length + bL bV x.2.2.2.2.1 * 20 ≤ 140720000000000) by show _ ≤ _; simp only [List.length_append]; have := cT_b x.2.2.2.1; omega)
  go_upto_region 2 with fail
  have hdw : Below w3.heap.size w3 w3.drew := ⟨rfl, rfl, rfl, Nat.le_refl _, fun _ _ => rfl⟩
  have ho := ap.own
  have hne0 := own_row_ne ra ho (by decide)
  have hne1 := own_row_ne rb ho (by decide)
  have hne2 := own_row_ne rr ho (by decide)
  have HK := (show Hid (∀ u, w3.grownBy u (Value.slice ao1 n1 c1).ownBlock → u.cell? ⟨w.heap.size + 1, 4, none⟩ = some vd ∧ u.cell? ⟨w.heap.size + 1, 5, none⟩ = some vs) from fun u hu => ⟨(rb.grown hu hne1).cell (j := 4) rfl, (rb.grown hu hne1).cell (j := 5) rfl⟩)
  have gd : w3.grownBy w3.drew (Value.slice ao1 n1 c1).ownBlock := grown_of_below hdw _
  have k0 := ra.cell (j := 0) rfl
  have k1 := ra.cell (j := 1) rfl
  have HL0 := (show Hid (X1.length ≤ 140720000000000) by show _ ≤ _; omega)
  have HL1 := (show Hid ((X1 ++ cT.wr x.2.2.2.1).length ≤ 140720000000000) by show _ ≤ _; simp only [List.length_append]; have := cT_b x.2.2.2.1; omega)
  go_wp2_with fail
  refine wp_region_held_drew (S := fun u => u.cell? ⟨w.heap.size + 1, 4, none⟩ = some vd ∧ u.cell? ⟨w.heap.size + 1, 5, none⟩ = some vs) (by kernel_rfl) (HK.out _ gd) (fun hHeld => ?_)
  refine wpAnyH_take (i := 1) (v := (.pointer (some ⟨w.heap.size + 1, 4, none⟩))) rfl (by kernel_rfl) (by kernel_rfl) (by kernel_rfl) (fun _ _ _ h => h) (Or.inl ⟨by rfl, fun u hSu => by (try dsimp only at hSu); go_simp⟩) (by assumption) ?_
  simp only [Act.put, List.setIfInBounds_toArray, List.set_cons_zero, List.set_cons_succ]
  refine wpAnyH_take (i := 2) (v := vd) rfl (by kernel_rfl) (by kernel_rfl) (by kernel_rfl) (fun _ _ _ h => h) (Or.inl ⟨by rfl, fun u hSu => by (try dsimp only at hSu); go_simp⟩) (by assumption) ?_
  simp only [Act.put, List.setIfInBounds_toArray, List.set_cons_zero, List.set_cons_succ]
  refine wpAnyH_take (i := 4) (v := (.pointer (some ⟨w.heap.size + 1, 5, none⟩))) rfl (by kernel_rfl) (by kernel_rfl) (by kernel_rfl) (fun _ _ _ h => h) (Or.inl ⟨by rfl, fun u hSu => by (try dsimp only at hSu); go_simp⟩) (by assumption) ?_
  simp only [Act.put, List.setIfInBounds_toArray, List.set_cons_zero, List.set_cons_succ]
  refine wpAnyH_take (i := 5) (v := vs) rfl (by kernel_rfl) (by kernel_rfl) (by kernel_rfl) (fun _ _ _ h => h) (Or.inl ⟨by rfl, fun u hSu => by (try dsimp only at hSu); go_simp⟩) (by assumption) ?_
  simp only [Act.put, List.setIfInBounds_toArray, List.set_cons_zero, List.set_cons_succ]
  refine wpAnyH_ready (rs := [0]) (by kernel_rfl) (by simp) ?_
  refine AllReadyH.cons (o := _) rfl (fun K hK => ?_) AllReadyH.nil
  go_simp
  refine hK.out _ _ (HK.out _ gd) (fun hHeld => ?_)
  clear hK K
  refine wpAnyH_ready (rs := [3]) (by kernel_rfl) (by simp) ?_
  refine AllReadyH.cons (o := _) rfl (fun K hK => ?_) AllReadyH.nil
  go_simp
  refine (refText_any w3.drew _ _ _ vd x.2.2.2.1 ho.drew (HRT.out _ (hB0.trans (ap.below hf hB0.size)).drew).1 (Nat.le_trans HL0.out (by decide)) t1).mono ?_
  rintro e w2_1 ⟨v2_1, rfl, q2_1⟩
  have a2_1 := App.pre hdw q2_1
  try go_simp
  refine hK.out _ _ (HK.out _ a2_1.grown) (fun hHeld => ?_)
  clear hK K
  refine wpAnyH_ready (rs := [6]) (by kernel_rfl) (by simp) ?_
  refine AllReadyH.cons (o := _) rfl (fun K hK => ?_) AllReadyH.nil
  go_simp
  refine (refVotes_any w0 w2_1 _ _ _ vs x.2.2.2.2.1 (hB0.trans ((ap.trans a2_1).below hf hB0.size)) ((ap.trans a2_1).fr hf hB0.size) a2_1.own HVS.out HV2.out (by omega)).mono ?_
  rintro e w2_2 ⟨v2_2, rfl, q2_2⟩
  have a2_2 := a2_1.trans q2_2
  have gg := a2_2.grown'
  obtain ⟨ao2, n2, c2, rfl⟩ := own_slice a2_2.own
  have ra' := ra.grown gg hne0
  have d0 := ra'.cell (j := 0) rfl
  have d1 := ra'.cell (j := 1) rfl
  have z0 := ra'.frozen 0
  have z1 := ra'.frozen 1
  try go_simp
  refine hK.out _ _ (HK.out _ a2_2.grown) (fun hHeld => ?_)
  clear hK K
  refine wpAnyH_ready (rs := [7]) (by kernel_rfl) (by simp) ?_
  refine AllReadyH.cons (o := _) rfl (fun K hK => ?_) AllReadyH.nil
  go_simp
  refine hK.out _ _ ⟨set2_keepN (HK.out w2_2 gg).1 (by show ¬ (w.heap.size + 1 = w.heap.size); omega), set2_keepN (HK.out w2_2 gg).2 (by show ¬ (w.heap.size + 1 = w.heap.size); omega)⟩ (fun hHeld => ?_)
  clear hK K
  refine wpAnyH_done (by kernel_rfl) ?_ _
  clear hHeld
  have gs : w2_2.grownBy ((w2_2.setCell ⟨w.heap.size, 0, none⟩ (.slice ao2 n2 c2)).setCell ⟨w.heap.size, 1, none⟩ (.bool ((b1 || !cT.ok x.2.2.2.1) || !(cL cVote).ok x.2.2.2.2.1))) (some w.heap.size) := grown_trans (grown_set _ _ _ _) (grown_set _ _ _ _) (.inl rfl)
  have ap' := App.box (ap.trans a2_2) (Nat.le_refl _) ra' (.slice ao2 n2 c2) (.bool ((b1 || !cT.ok x.2.2.2.1) || !(cL cVote).ok x.2.2.2.2.1))
  have ra'' : Row _ w.heap.size 157 [.slice ao2 n2 c2, .bool ((b1 || !cT.ok x.2.2.2.1) || !(cL cVote).ok x.2.2.2.2.1)] := (ra'.set 0 (.slice ao2 n2 c2)).set 1 (.bool ((b1 || !cT.ok x.2.2.2.1) || !(cL cVote).ok x.2.2.2.2.1))
  have rb' := (rb.grown gg hne1).grown gs (fun e => by injection e with e; omega)
  have rr' := (rr.grown gg hne2).grown gs (fun e => by injection e with e; omega)
  clear hdw ho hne0 hne1 hne2 HK gd k0 k1 gg ra' d0 d1 z0 z1 gs ap ra rb rr
  generalize hX : ((X1 ++ cT.wr x.2.2.2.1) ++ (cL cVote).wr x.2.2.2.2.1) = X2 at ap'
  generalize hb : ((b1 || !cT.ok x.2.2.2.1) || !(cL cVote).ok x.2.2.2.2.1) = b2 at *
  have HX2 := (show Hid (((X1 ++ cT.wr x.2.2.2.1) ++ (cL cVote).wr x.2.2.2.2.1) = X2) from hX)
  have HB2 := (show Hid (((b1 || !cT.ok x.2.2.2.1) || !(cL cVote).ok x.2.2.2.2.1) = b2) from hb)
  have lx2 : X2.length ≤ L.length + 40 + 20 * bT x.2.2.2.1 + 20 * bL bV x.2.2.2.2.1 := by rw [← hX]; simp only [List.length_append]; have := cT_b x.2.2.2.1; have := cL_len cVote cVote_len x.2.2.2.2.1; omega
  clear hX hb
  generalize (w2_2.setCell ⟨w.heap.size, 0, none⟩ (.slice ao2 n2 c2)).setCell ⟨w.heap.size, 1, none⟩ (.bool b2) = w4 at *
  have ap := ap'
  have ra := ra''
  have rb := rb'
  have rr := rr'
  clear ap' ra'' rb' rr' HV2
  go_upto_region 3 with fail
  have hM := refMany_any w4 (.slice ao2 n2 c2) b2 X2 (x.2.2.2.2.2.1.length : Int) ap.own (by omega)
  have c6 := rb.cell (j := 6) rfl
  have hne0 := own_row_ne ra ap.own (by decide)
  have hne1 := own_row_ne rb ap.own (by decide)
  have hne2 := own_row_ne rr ap.own (by decide)
  go_upto_region 4 with (first
    | (refine wl_load rfl _ _ rfl w.heap.size rfl _ _ ra _ Tryz.underlying157 rfl (by kernel_rfl) ?_)
    | (go_at_call 166; refine hM.mono ?_; rintro e w5 ⟨v5, rfl, q5⟩; obtain ⟨ao5, n5, c5, rfl⟩ := own_slice q5.own; have ra5 := ra.grown q5.grown hne0)
    | (refine wl_store rfl _ _ _ rfl w.heap.size [.slice ao5 n5 c5, .bool (b2 || !cMn.ok (x.2.2.2.2.2.1.length : Int))] rfl rfl _ _ ra5 rfl (by kernel_rfl) one2b ?_; intro w6 hr6 hg6))
  have hr6 := hr6.out
  have hap5 := ap.trans q5
  have hn5 := own_row_ne ra5 q5.own (by decide)
  have ha6 := App.after hap5 (Nat.le_refl _) hg6 hn5
  rw [Lq_zero cPrep] at ha6
  rw [Bq_zero cPrep] at hr6
  have rb6 := (rb.grown q5.grown hne1).grown hg6 (fun e => by injection e with e; omega)
  have rr6 := (rr.grown q5.grown hne2).grown hg6 (fun e => by injection e with e; omega)
  have HX := (show Hid (0 < x.2.2.2.2.2.1.length → ∃ b off, apv = some ⟨b, off, none⟩ ∧ b < w0.heap.size ∧ ∀ (i : Nat) (a : PPrep), x.2.2.2.2.2.1[i]? = some a → ∃ r, r.length = 8 ∧ w0.rangeAt b (off + i * 8) r ∧ RPrep Any w0 r a) from fun h0 => by
    obtain ⟨b, off, c', e, _, _, _, hbb, hx⟩ := HVP.out.at h0
    injection e with e1 e2 e3
    exact ⟨b, off, e1, hbb, hx⟩)
  have hlen := len_bS (f := bP) (fun y => by simp only [bP]; omega) x.2.2.2.2.2.1
  have hlz : x.2.2.2.2.2.1.length ≤ 2000000 := by simp only [bL] at hbs; omega
  have HLE := (show Hid (∀ q, (Lq cPrep X2 x.2.2.2.2.2.1 q).length + 20 * bT x.2.2.2.2.2.2 ≤ 140719999999900) from fun q => by have := Lq_len cPrep cPrep_len X2 x.2.2.2.2.2.1 q; omega)
  have HZ := (show Hid (∀ y ∈ x.2.2.2.2.2.1, bP y ≤ bL bP x.2.2.2.2.2.1 ∧ 20 * bP y ≤ 140719999999900) from fun y hy => by have := bS_mem (f := bP) hy; simp only [bL] at hbs ⊢; omega)
  have HBA := (show Hid (Bq cPrep b2 x.2.2.2.2.2.1 x.2.2.2.2.2.1.length = (b2 || !(cL cPrep).ok x.2.2.2.2.2.1)) from Bq_all _ _ _ (by omega))
  have b3 : bL bP x.2.2.2.2.2.1 ≤ 2000000 := by omega
  have HLA := (show Hid (∀ (q : Nat) (a : PPrep), x.2.2.2.2.2.1[q]? = some a → (Lq cPrep X2 x.2.2.2.2.2.1 q).length + 20 * bP a ≤ 140719999999900) from fun q a ha => by have := Lq_len cPrep cPrep_len X2 x.2.2.2.2.2.1 q; have := bS_mem (f := bP) (List.mem_of_getElem? ha); simp only [bL] at *; omega)
  have c6' := rb6.cell (j := 6) rfl
  have HVG := (show Hid (∀ u, Below w0.heap.size w0 u → Rd u vg x.2.2.2.2.2.2) from fun u hu => (HRT.out u hu).2)
  have HAX := (show Hid (X2 ++ (cL cPrep).wr x.2.2.2.2.2.1 ++ cT.wr x.2.2.2.2.2.2 = L ++ cRep.wr x) by
    show _ = _
    rw [← HX2.out, ← HX1.out]
    simp [cRep, cP, cBal, List.append_assoc])
  have HAB := (show Hid (((b2 || !(cL cPrep).ok x.2.2.2.2.2.1) || !cT.ok x.2.2.2.2.2.2) = (bad || !cRep.ok x)) by
    show _ = _
    rw [← HB2.out, ← HB1.out]
    simp [cRep, cP, cBal, Bool.or_assoc])
  clear hap5 hn5 q5 ra5 hg6 hM c6 hne0 hne1 hne2 ap ra rb rr HVP HVS HRT hbs lx1 lx2 e0' hlen HX1 HX2 HB1 HB2 hcpv t1
  generalize x.2.2.2.2.2.1 = ps at *
  go_wp2_with fail
  go_loopw [37] (fun i wr => ∃ (q : Nat) (ak : Option Addr) (nk ck : Nat), q ≤ ps.length ∧ i = .int .i64 q ∧ Row wr w.heap.size 157 [.slice ak nk ck, .bool (Bq cPrep b2 ps q)] ∧ Row wr (w.heap.size + 1) 28 [.int .i64 x.1.1, .int .i64 x.1.2, .int .i64 x.2.1, .int .i64 x.2.2.1, vd, vs, .slice apv ps.length cpv, vg] ∧ Row wr (w.heap.size + 2) 157 [.slice none 0 0, .bool false] ∧ App w 5 (.slice ao no co) wr (.slice ak nk ck) (bc (Lq cPrep X2 ps q))) (fun i _ => ps.length - (intOf i).toNat)
  case atStart => exact ⟨0, ao5, n5, c5, by omega, rfl, hr6, rb6, rr6, ha6⟩
  case round =>
    clear hr6 rb6 rr6 ha6 c6'
    obtain ⟨q, ak, nk, ck, hq, rfl, ra, rb, rr, ap⟩ := hrel
    by_cases hql : q < ps.length
    · obtain ⟨bb, off, rfl, hbb, hx⟩ := HX.out (by omega)
      obtain ⟨a, ha⟩ : ∃ a, ps[q]? = some a := ⟨_, List.getElem?_eq_getElem hql⟩
      obtain ⟨r, _, hrng, so, sg, sc, rfl, hso, hsg, hsc⟩ := hx q a ha
      have hz' := HZ.out a (List.mem_of_getElem? ha)
      have hBr := hB0.trans (ap.below hf hB0.size)
      have hrng := rangeAt_block hrng (hBr.block bb hbb)
      have hrow0 := Row.new wr 66 [.int .i64 0, .int .i64 0, .int .i64 0, .int .i64 0, .int .i64 0, .slice none 0 0, .slice none 0 0, .slice none 0 0]
      have HSL := (show Hid (Lq cPrep X2 ps q ++ cPrep.wr a = Lq cPrep X2 ps (q + 1)) from Lq_succ _ _ _ ha)
      have HSB := (show Hid ((Bq cPrep b2 ps q || !cPrep.ok a) = Bq cPrep b2 ps (q + 1)) from Bq_succ _ _ _ ha)
      have hone : ∀ z ∈ [Value.int .i64 a.1, .int .i64 a.2.1.1, .int .i64 a.2.1.2, .int .i64 a.2.2.1.1, .int .i64 a.2.2.1.2.1, so, sg, sc], z.oneCell' = true := by
        have o1 := hso.one
        have o2 := hsg.one
        have o3 : sc.oneCell' = true := by obtain ⟨_, _, rfl, _⟩ := hsc.form; rfl
        intro z hz
        simp only [List.mem_cons, List.not_mem_nil, or_false] at hz
        rcases hz with rfl | rfl | rfl | rfl | rfl | rfl | rfl | rfl <;> first | rfl | assumption
      have HRQ := (show Hid (RReq Any w0 [.int .i64 a.2.2.1.1, .int .i64 a.2.2.1.2.1, so, sg] a.2.2.1) from ⟨_, _, rfl, hso, hsg⟩)
      have HRV := (show Hid (RL RVote 2 Any w0 sc a.2.2.2) from hsc)
      have hle := HLE.out q
      have HLQ := (show Hid ((Lq cPrep X2 ps q).length + 20 * bP a ≤ 140719999999900) from HLA.out q a ha)
      clear ha hx hso hsg hsc
      go_upto_region 7 with (first
        | (refine wpList_load_mid rfl _ _ rfl bb (off + q * 8) rfl [.int .i64 a.1, .int .i64 a.2.1.1, .int .i64 a.2.1.2, .int .i64 a.2.2.1.1, .int .i64 a.2.2.1.2.1, so, sg, sc] _ hrng Tryz.underlying66 rfl (by kernel_rfl) ?_)
        | (refine wl_store rfl _ _ _ rfl wr.heap.size [.int .i64 a.1, .int .i64 a.2.1.1, .int .i64 a.2.1.2, .int .i64 a.2.2.1.1, .int .i64 a.2.2.1.2.1, so, sg, sc] rfl rfl _ _ hrow0 rfl (by kernel_rfl) hone ?_; intro w7 hr7 hg7))
      have hb7 : Below wr.heap.size wr w7 := (below_alloc wr (.cells ([.int .i64 0, .int .i64 0, .int .i64 0, .int .i64 0, .int .i64 0, .slice none 0 0, .slice none 0 0, .slice none 0 0] : List Value).toArray 66)).trans (grown_below hg7 (by simp) (fun k hk => by cases hk; exact Nat.le_refl _))
      have hlt := rr.lt
      have rv := hr7.out
      have ap : App w 5 (.slice ao no co) w7 (.slice ak nk ck) (bc (Lq cPrep X2 ps q)) := ⟨ap.own.below hb7, grown_trans ap.grown (grown_of_below hb7 none) (.inr fun k hk => by cases hk), ap.spot⟩
      have ra := ra.below hb7
      have rb := rb.below hb7
      have rr := rr.below hb7
      obtain ⟨bv, hbv'⟩ : ∃ bv, bv = wr.heap.size := ⟨_, rfl⟩
      rw [← hbv'] at rv hlt ⊢
      have hbv : ¬ (bv = w.heap.size) := by omega
      clear hbv' hr7 hg7 hb7 hrng hrow0 hone hBr
      have hdw : Below w7.heap.size w7 w7.drew := ⟨rfl, rfl, rfl, Nat.le_refl _, fun _ _ => rfl⟩
      have ho := ap.own
      have hne0 := own_row_ne ra ho (by decide)
      have hne1 := own_row_ne rv ho (by decide)
      have hne2 := own_row_ne rr ho (by decide)
      have HK := (show Hid (∀ u, w7.grownBy u (Value.slice ak nk ck).ownBlock → u.cell? ⟨bv, 0, none⟩ = some (.int .i64 a.1) ∧ u.cell? ⟨bv, 1, none⟩ = some (.int .i64 a.2.1.1) ∧ u.cell? ⟨bv, 2, none⟩ = some (.int .i64 a.2.1.2)) from fun u hu => ⟨(rv.grown hu hne1).cell (j := 0) rfl, (rv.grown hu hne1).cell (j := 1) rfl, (rv.grown hu hne1).cell (j := 2) rfl⟩)
      have gd : w7.grownBy w7.drew (Value.slice ak nk ck).ownBlock := grown_of_below hdw _
      have k0 := ra.cell (j := 0) rfl
      have k1 := ra.cell (j := 1) rfl
      have HL0 := (show Hid ((Lq cPrep X2 ps q).length ≤ 140720000000000) by show _ ≤ _; omega)
      have HL1 := (show Hid (((Lq cPrep X2 ps q) ++ cN.wr a.1).length ≤ 140720000000000) by show _ ≤ _; simp only [List.length_append]; have := cN_len a.1; have := cN_len a.2.1.1; have := cN_len a.2.1.2; omega)
      have HL2 := (show Hid ((((Lq cPrep X2 ps q) ++ cN.wr a.1) ++ cN.wr a.2.1.1).length ≤ 140720000000000) by show _ ≤ _; simp only [List.length_append]; have := cN_len a.1; have := cN_len a.2.1.1; have := cN_len a.2.1.2; omega)
      go_wp2_with fail
      refine wp_region_held_drew (S := fun u => u.cell? ⟨bv, 0, none⟩ = some (.int .i64 a.1) ∧ u.cell? ⟨bv, 1, none⟩ = some (.int .i64 a.2.1.1) ∧ u.cell? ⟨bv, 2, none⟩ = some (.int .i64 a.2.1.2)) (by kernel_rfl) (HK.out _ gd) (fun hHeld => ?_)
      refine wpAnyH_take (i := 1) (v := (.pointer (some ⟨bv, 0, none⟩))) rfl (by kernel_rfl) (by kernel_rfl) (by kernel_rfl) (fun _ _ _ h => h) (Or.inl ⟨by rfl, fun u hSu => by (try dsimp only at hSu); go_simp⟩) (by assumption) ?_
      simp only [Act.put, List.setIfInBounds_toArray, List.set_cons_zero, List.set_cons_succ]
      refine wpAnyH_take (i := 2) (v := (.int .i64 a.1)) rfl (by kernel_rfl) (by kernel_rfl) (by kernel_rfl) (fun _ _ _ h => h) (Or.inl ⟨by rfl, fun u hSu => by (try dsimp only at hSu); go_simp⟩) (by assumption) ?_
      simp only [Act.put, List.setIfInBounds_toArray, List.set_cons_zero, List.set_cons_succ]
      refine wpAnyH_take (i := 4) (v := (.pointer (some ⟨bv, 1, none⟩))) rfl (by kernel_rfl) (by kernel_rfl) (by kernel_rfl) (fun _ _ _ h => h) (Or.inl ⟨by rfl, fun u hSu => by (try dsimp only at hSu); go_simp⟩) (by assumption) ?_
      simp only [Act.put, List.setIfInBounds_toArray, List.set_cons_zero, List.set_cons_succ]
      refine wpAnyH_take (i := 5) (v := (.pointer (some ⟨bv, 1, none⟩))) rfl (by kernel_rfl) (by kernel_rfl) (by kernel_rfl) (fun _ _ _ h => h) (Or.inl ⟨by rfl, fun u hSu => by (try dsimp only at hSu); go_simp⟩) (by assumption) ?_
      simp only [Act.put, List.setIfInBounds_toArray, List.set_cons_zero, List.set_cons_succ]
      refine wpAnyH_take (i := 6) (v := (.int .i64 a.2.1.1)) rfl (by kernel_rfl) (by kernel_rfl) (by kernel_rfl) (fun _ _ _ h => h) (Or.inl ⟨by rfl, fun u hSu => by (try dsimp only at hSu); go_simp⟩) (by assumption) ?_
      simp only [Act.put, List.setIfInBounds_toArray, List.set_cons_zero, List.set_cons_succ]
      refine wpAnyH_take (i := 8) (v := (.pointer (some ⟨bv, 1, none⟩))) rfl (by kernel_rfl) (by kernel_rfl) (by kernel_rfl) (fun _ _ _ h => h) (Or.inl ⟨by rfl, fun u hSu => by (try dsimp only at hSu); go_simp⟩) (by assumption) ?_
      simp only [Act.put, List.setIfInBounds_toArray, List.set_cons_zero, List.set_cons_succ]
      refine wpAnyH_take (i := 9) (v := (.pointer (some ⟨bv, 2, none⟩))) rfl (by kernel_rfl) (by kernel_rfl) (by kernel_rfl) (fun _ _ _ h => h) (Or.inl ⟨by rfl, fun u hSu => by (try dsimp only at hSu); go_simp⟩) (by assumption) ?_
      simp only [Act.put, List.setIfInBounds_toArray, List.set_cons_zero, List.set_cons_succ]
      refine wpAnyH_take (i := 10) (v := (.int .i64 a.2.1.2)) rfl (by kernel_rfl) (by kernel_rfl) (by kernel_rfl) (fun _ _ _ h => h) (Or.inl ⟨by rfl, fun u hSu => by (try dsimp only at hSu); go_simp⟩) (by assumption) ?_
      simp only [Act.put, List.setIfInBounds_toArray, List.set_cons_zero, List.set_cons_succ]
      refine wpAnyH_ready (rs := [0]) (by kernel_rfl) (by simp) ?_
      refine AllReadyH.cons (o := _) rfl (fun K hK => ?_) AllReadyH.nil
      go_simp
      refine hK.out _ _ (HK.out _ gd) (fun hHeld => ?_)
      clear hK K
      refine wpAnyH_ready (rs := [3]) (by kernel_rfl) (by simp) ?_
      refine AllReadyH.cons (o := _) rfl (fun K hK => ?_) AllReadyH.nil
      go_simp
      refine (refNum_any w7.drew _ _ _ a.1 ho.drew (Nat.le_trans HL0.out (by decide))).mono ?_
      rintro e w7_1 ⟨v7_1, rfl, q7_1⟩
      have a7_1 := App.pre hdw q7_1
      try go_simp
      refine hK.out _ _ (HK.out _ a7_1.grown) (fun hHeld => ?_)
      clear hK K
      refine wpAnyH_ready (rs := [7]) (by kernel_rfl) (by simp) ?_
      refine AllReadyH.cons (o := _) rfl (fun K hK => ?_) AllReadyH.nil
      go_simp
      refine (refNum_any w7_1 _ _ _ a.2.1.1 a7_1.own (Nat.le_trans HL1.out (by decide))).mono ?_
      rintro e w7_2 ⟨v7_2, rfl, q7_2⟩
      have a7_2 := a7_1.trans q7_2
      try go_simp
      refine hK.out _ _ (HK.out _ a7_2.grown) (fun hHeld => ?_)
      clear hK K
      refine wpAnyH_ready (rs := [11]) (by kernel_rfl) (by simp) ?_
      refine AllReadyH.cons (o := _) rfl (fun K hK => ?_) AllReadyH.nil
      go_simp
      refine (refNum_any w7_2 _ _ _ a.2.1.2 a7_2.own (Nat.le_trans HL2.out (by decide))).mono ?_
      rintro e w7_3 ⟨v7_3, rfl, q7_3⟩
      have a7_3 := a7_2.trans q7_3
      have gg := a7_3.grown'
      obtain ⟨ao7, n7, c7, rfl⟩ := own_slice a7_3.own
      have ra' := ra.grown gg hne0
      have d0 := ra'.cell (j := 0) rfl
      have d1 := ra'.cell (j := 1) rfl
      have z0 := ra'.frozen 0
      have z1 := ra'.frozen 1
      try go_simp
      refine hK.out _ _ (HK.out _ a7_3.grown) (fun hHeld => ?_)
      clear hK K
      refine wpAnyH_ready (rs := [12]) (by kernel_rfl) (by simp) ?_
      refine AllReadyH.cons (o := _) rfl (fun K hK => ?_) AllReadyH.nil
      go_simp
      refine hK.out _ _ ⟨set2_keepN (HK.out w7_3 gg).1 hbv, set2_keepN (HK.out w7_3 gg).2.1 hbv, set2_keepN (HK.out w7_3 gg).2.2 hbv⟩ (fun hHeld => ?_)
      clear hK K
      refine wpAnyH_done (by kernel_rfl) ?_ _
      clear hHeld
      have gs : w7_3.grownBy ((w7_3.setCell ⟨w.heap.size, 0, none⟩ (.slice ao7 n7 c7)).setCell ⟨w.heap.size, 1, none⟩ (.bool ((((Bq cPrep b2 ps q) || !cN.ok a.1) || !cN.ok a.2.1.1) || !cN.ok a.2.1.2))) (some w.heap.size) := grown_trans (grown_set _ _ _ _) (grown_set _ _ _ _) (.inl rfl)
      have ap' := App.box (ap.trans a7_3) (Nat.le_refl _) ra' (.slice ao7 n7 c7) (.bool ((((Bq cPrep b2 ps q) || !cN.ok a.1) || !cN.ok a.2.1.1) || !cN.ok a.2.1.2))
      have ra'' : Row _ w.heap.size 157 [.slice ao7 n7 c7, .bool ((((Bq cPrep b2 ps q) || !cN.ok a.1) || !cN.ok a.2.1.1) || !cN.ok a.2.1.2)] := (ra'.set 0 (.slice ao7 n7 c7)).set 1 (.bool ((((Bq cPrep b2 ps q) || !cN.ok a.1) || !cN.ok a.2.1.1) || !cN.ok a.2.1.2))
      have rv' := (rv.grown gg hne1).grown gs (fun e => by injection e with e; omega)
      have rb' := (rb.grown gg (own_row_ne rb ho (by decide))).grown gs (fun e => by injection e with e; omega)
      have rr' := (rr.grown gg hne2).grown gs (fun e => by injection e with e; omega)
      clear hdw ho hne0 hne1 hne2 HK gd k0 k1 gg ra' d0 d1 z0 z1 gs ap ra rv rb rr
      generalize hX : ((((Lq cPrep X2 ps q) ++ cN.wr a.1) ++ cN.wr a.2.1.1) ++ cN.wr a.2.1.2) = X7 at ap'
      generalize hb : ((((Bq cPrep b2 ps q) || !cN.ok a.1) || !cN.ok a.2.1.1) || !cN.ok a.2.1.2) = b7 at *
      have HX7 := (show Hid (((((Lq cPrep X2 ps q) ++ cN.wr a.1) ++ cN.wr a.2.1.1) ++ cN.wr a.2.1.2) = X7) from hX)
      have HB7 := (show Hid (((((Bq cPrep b2 ps q) || !cN.ok a.1) || !cN.ok a.2.1.1) || !cN.ok a.2.1.2) = b7) from hb)
      have lx7 : X7.length ≤ (Lq cPrep X2 ps q).length + 30 := by rw [← hX]; simp only [List.length_append]; have := cN_len a.1; have := cN_len a.2.1.1; have := cN_len a.2.1.2; omega
      clear hX hb
      generalize (w7_3.setCell ⟨w.heap.size, 0, none⟩ (.slice ao7 n7 c7)).setCell ⟨w.heap.size, 1, none⟩ (.bool b7) = w8 at *
      have ap := ap'
      have ra := ra''
      have rb := rb'
      have rr := rr'
      have rv := rv'
      clear ap' ra'' rb' rr' rv'
      have y1 : a.2.2.1.2.2.1.length ≤ 2147483647 := by have := hz'.1; simp only [bP, bQ, bT] at this; omega
      have y2 : a.2.2.1.2.2.2.length ≤ 2147483647 := by have := hz'.1; simp only [bP, bQ, bT] at this; omega
      have y3 : bL bV a.2.2.2 ≤ 2000000 := by have := hz'.1; simp only [bP] at this; omega
      have HVL := (show Hid ((X7 ++ cReq.wr a.2.2.1).length + bL bV a.2.2.2 * 20 ≤ 140720000000000) by show _ ≤ _; simp only [List.length_append]; have := cReq_len a.2.2.1; have h9 := hz'.2; have h8 := HLQ.out; simp only [bP] at h9 h8; omega)
      go_upto_region 8 with fail
      have hdw : Below w8.heap.size w8 w8.drew := ⟨rfl, rfl, rfl, Nat.le_refl _, fun _ _ => rfl⟩
      have ho := ap.own
      have hne0 := own_row_ne ra ho (by decide)
      have hne1 := own_row_ne rv ho (by decide)
      have hne2 := own_row_ne rr ho (by decide)
      have HK := (show Hid (∀ u, w8.grownBy u (Value.slice ao7 n7 c7).ownBlock → u.cell? ⟨bv, 3, none⟩ = some (.int .i64 a.2.2.1.1) ∧ u.cell? ⟨bv, 4, none⟩ = some (.int .i64 a.2.2.1.2.1) ∧ u.cell? ⟨bv, 5, none⟩ = some so ∧ u.cell? ⟨bv, 6, none⟩ = some sg ∧ u.cell? ⟨bv, 7, none⟩ = some sc) from fun u hu => ⟨(rv.grown hu hne1).cell (j := 3) rfl, (rv.grown hu hne1).cell (j := 4) rfl, (rv.grown hu hne1).cell (j := 5) rfl, (rv.grown hu hne1).cell (j := 6) rfl, (rv.grown hu hne1).cell (j := 7) rfl⟩)
      have gd : w8.grownBy w8.drew (Value.slice ao7 n7 c7).ownBlock := grown_of_below hdw _
      have k0 := ra.cell (j := 0) rfl
      have k1 := ra.cell (j := 1) rfl
      have HL0 := (show Hid (X7.length ≤ 140720000000000) by show _ ≤ _; have := HVL.out; simp only [List.length_append] at this; omega)
      have HL1 := (show Hid ((X7 ++ cReq.wr a.2.2.1).length ≤ 140720000000000) by show _ ≤ _; have := HVL.out; simp only [List.length_append] at this ⊢; omega)
      go_wp2_with fail
      refine wp_region_held_drew (S := fun u => u.cell? ⟨bv, 3, none⟩ = some (.int .i64 a.2.2.1.1) ∧ u.cell? ⟨bv, 4, none⟩ = some (.int .i64 a.2.2.1.2.1) ∧ u.cell? ⟨bv, 5, none⟩ = some so ∧ u.cell? ⟨bv, 6, none⟩ = some sg ∧ u.cell? ⟨bv, 7, none⟩ = some sc) (by kernel_rfl) (HK.out _ gd) (fun hHeld => ?_)
      refine wpAnyH_take (i := 1) (v := (.pointer (some ⟨bv, 3, none⟩))) rfl (by kernel_rfl) (by kernel_rfl) (by kernel_rfl) (fun _ _ _ h => h) (Or.inl ⟨by rfl, fun u hSu => by (try dsimp only at hSu); go_simp⟩) (by assumption) ?_
      simp only [Act.put, List.setIfInBounds_toArray, List.set_cons_zero, List.set_cons_succ]
      refine wpAnyH_take (i := 2) (v := (.agg #[.int .i64 a.2.2.1.1, .int .i64 a.2.2.1.2.1, so, sg])) rfl (by kernel_rfl) (by kernel_rfl) (by kernel_rfl) (fun _ _ _ h => h) (Or.inl ⟨by rfl, fun u hSu => by (try dsimp only at hSu); go_simp⟩) (by assumption) ?_
      simp only [Act.put, List.setIfInBounds_toArray, List.set_cons_zero, List.set_cons_succ]
      refine wpAnyH_take (i := 4) (v := (.pointer (some ⟨bv, 7, none⟩))) rfl (by kernel_rfl) (by kernel_rfl) (by kernel_rfl) (fun _ _ _ h => h) (Or.inl ⟨by rfl, fun u hSu => by (try dsimp only at hSu); go_simp⟩) (by assumption) ?_
      simp only [Act.put, List.setIfInBounds_toArray, List.set_cons_zero, List.set_cons_succ]
      refine wpAnyH_take (i := 5) (v := sc) rfl (by kernel_rfl) (by kernel_rfl) (by kernel_rfl) (fun _ _ _ h => h) (Or.inl ⟨by rfl, fun u hSu => by (try dsimp only at hSu); go_simp⟩) (by assumption) ?_
      simp only [Act.put, List.setIfInBounds_toArray, List.set_cons_zero, List.set_cons_succ]
      refine wpAnyH_ready (rs := [0]) (by kernel_rfl) (by simp) ?_
      refine AllReadyH.cons (o := _) rfl (fun K hK => ?_) AllReadyH.nil
      go_simp
      refine hK.out _ _ (HK.out _ gd) (fun hHeld => ?_)
      clear hK K
      refine wpAnyH_ready (rs := [3]) (by kernel_rfl) (by simp) ?_
      refine AllReadyH.cons (o := _) rfl (fun K hK => ?_) AllReadyH.nil
      go_simp
      refine (refReq_any w0 w8.drew _ _ _ [.int .i64 a.2.2.1.1, .int .i64 a.2.2.1.2.1, so, sg] a.2.2.1 (hB0.trans (ap.below hf hB0.size)).drew (ap.fr hf hB0.size) ho.drew HRQ.out HL0.out y1 y2).mono ?_
      rintro e w8_1 ⟨v8_1, rfl, q8_1⟩
      have a8_1 := App.pre hdw q8_1
      try go_simp
      refine hK.out _ _ (HK.out _ a8_1.grown) (fun hHeld => ?_)
      clear hK K
      refine wpAnyH_ready (rs := [6]) (by kernel_rfl) (by simp) ?_
      refine AllReadyH.cons (o := _) rfl (fun K hK => ?_) AllReadyH.nil
      go_simp
      refine (refVotes_any w0 w8_1 _ _ _ sc a.2.2.2 (hB0.trans ((ap.trans a8_1).below hf hB0.size)) ((ap.trans a8_1).fr hf hB0.size) a8_1.own HRV.out HVL.out y3).mono ?_
      rintro e w8_2 ⟨v8_2, rfl, q8_2⟩
      have a8_2 := a8_1.trans q8_2
      have gg := a8_2.grown'
      obtain ⟨ao8, n8, c8, rfl⟩ := own_slice a8_2.own
      have ra' := ra.grown gg hne0
      have d0 := ra'.cell (j := 0) rfl
      have d1 := ra'.cell (j := 1) rfl
      have z0 := ra'.frozen 0
      have z1 := ra'.frozen 1
      try go_simp
      refine hK.out _ _ (HK.out _ a8_2.grown) (fun hHeld => ?_)
      clear hK K
      refine wpAnyH_ready (rs := [7]) (by kernel_rfl) (by simp) ?_
      refine AllReadyH.cons (o := _) rfl (fun K hK => ?_) AllReadyH.nil
      go_simp
      refine hK.out _ _ ⟨set2_keepN (HK.out w8_2 gg).1 hbv, set2_keepN (HK.out w8_2 gg).2.1 hbv, set2_keepN (HK.out w8_2 gg).2.2.1 hbv, set2_keepN (HK.out w8_2 gg).2.2.2.1 hbv, set2_keepN (HK.out w8_2 gg).2.2.2.2 hbv⟩ (fun hHeld => ?_)
      clear hK K
      refine wpAnyH_done (by kernel_rfl) ?_ _
      clear hHeld
      have gs : w8_2.grownBy ((w8_2.setCell ⟨w.heap.size, 0, none⟩ (.slice ao8 n8 c8)).setCell ⟨w.heap.size, 1, none⟩ (.bool ((b7 || !cReq.ok a.2.2.1) || !(cL cVote).ok a.2.2.2))) (some w.heap.size) := grown_trans (grown_set _ _ _ _) (grown_set _ _ _ _) (.inl rfl)
      have ap' := App.box (ap.trans a8_2) (Nat.le_refl _) ra' (.slice ao8 n8 c8) (.bool ((b7 || !cReq.ok a.2.2.1) || !(cL cVote).ok a.2.2.2))
      have ra'' : Row _ w.heap.size 157 [.slice ao8 n8 c8, .bool ((b7 || !cReq.ok a.2.2.1) || !(cL cVote).ok a.2.2.2)] := (ra'.set 0 (.slice ao8 n8 c8)).set 1 (.bool ((b7 || !cReq.ok a.2.2.1) || !(cL cVote).ok a.2.2.2))
      have rv' := (rv.grown gg hne1).grown gs (fun e => by injection e with e; omega)
      have rb' := (rb.grown gg (own_row_ne rb ho (by decide))).grown gs (fun e => by injection e with e; omega)
      have rr' := (rr.grown gg hne2).grown gs (fun e => by injection e with e; omega)
      clear hdw ho hne0 hne1 hne2 HK gd k0 k1 gg ra' d0 d1 z0 z1 gs ap ra rv rb rr
      generalize hX : ((X7 ++ cReq.wr a.2.2.1) ++ (cL cVote).wr a.2.2.2) = X8 at ap'
      generalize hb : ((b7 || !cReq.ok a.2.2.1) || !(cL cVote).ok a.2.2.2) = b8 at *
      have HX8 := (show Hid (((X7 ++ cReq.wr a.2.2.1) ++ (cL cVote).wr a.2.2.2) = X8) from hX)
      have HB8 := (show Hid (((b7 || !cReq.ok a.2.2.1) || !(cL cVote).ok a.2.2.2) = b8) from hb)
      have eX : X8 = Lq cPrep X2 ps (q + 1) := by rw [← hX, ← HSL.out, ← HX7.out]; simp [cPrep, cP, cBal, List.append_assoc]
      have eB : b8 = Bq cPrep b2 ps (q + 1) := by rw [← hb, ← HSB.out, ← HB7.out]; simp [cPrep, cP, cBal, Bool.or_assoc]
      clear hX hb HX7 HB7 HX8 HB8
      generalize (w8_2.setCell ⟨w.heap.size, 0, none⟩ (.slice ao8 n8 c8)).setCell ⟨w.heap.size, 1, none⟩ (.bool b8) = w9 at *
      rw [eX] at ap'
      rw [eB] at ra''
      clear eX eB HSL HSB
      go_wp2_with fail
      go_roundw
      case rel => exact ⟨q + 1, ao8, n8, c8, by omega, by go_num, ra'', rb', rr', ap'⟩
      case measure => simp [intOf]; omega
    · obtain rfl : q = ps.length := by omega
      have hqd : decide ((ps.length : Int) < ps.length) = false := by simp
      rw [HBA.out] at ra
      rw [Lq_all] at ap
      have hle := HLE.out ps.length
      rw [Lq_all] at hle
      have c7' := rb.cell (j := 7) rfl
      have hn0 := own_row_ne ra ap.own (by decide)
      have hn2 := own_row_ne rr ap.own (by decide)
      have hT := refText_any wr (.slice ak nk ck) (b2 || !(cL cPrep).ok ps) (X2 ++ (cL cPrep).wr ps) vg x.2.2.2.2.2.2 ap.own (HVG.out _ (hB0.trans (ap.below hf hB0.size))) (by omega) t2
      go_wp2_with (first
        | (refine wl_load rfl _ _ rfl w.heap.size rfl _ _ ra _ Tryz.underlying157 rfl (by kernel_rfl) ?_)
        | (go_at_call 164; refine hT.mono ?_; rintro e w8 ⟨v8, rfl, q8⟩; obtain ⟨ao8, n8, c8, rfl⟩ := own_slice q8.own; have rr8 := rr.grown q8.grown hn2)
        | (refine wl_store rfl _ _ _ rfl (w.heap.size + 2) [.slice ao8 n8 c8, .bool ((b2 || !(cL cPrep).ok ps) || !cT.ok x.2.2.2.2.2.2)] rfl rfl _ _ rr8 rfl (by kernel_rfl) one2b ?_; intro w9 hr9 hg9))
      have hr9 := hr9.out
      refine bodyPost_ret (v := .agg ([.slice ao8 n8 c8, .bool ((b2 || !(cL cPrep).ok ps) || !cT.ok x.2.2.2.2.2.2)] : List Value).toArray) (results_cell_row rfl _ _ (w.heap.size + 2) _ _ (0, 0) _ (by rfl) hr9 Tryz.underlying157 rfl (by kernel_rfl)) rfl ?_
      exact OPost.end (App.after (ap.trans q8) (by omega) hg9 (own_row_ne rr8 q8.own (by decide))) HAX.out HAB.out
end
end Go.Proofs.YtgbfmccecnfooaaGreatDoor
