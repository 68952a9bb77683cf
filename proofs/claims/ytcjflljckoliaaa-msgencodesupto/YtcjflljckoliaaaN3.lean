/- The document's writing: requests. -/
import Derived.Test.YtcjflljckoliaaaN2
set_option linter.unusedVariables false
namespace Go.Proofs.Ytcjflljckoliaaa
open Go.RowKit Oct

theorem App.grown' {w w' : World} {sv v' : Value} {X : List Value} (h : App w 5 sv w' v' X) : w.grownBy w' sv.ownBlock := h.grown
theorem OPost.end {α : Type} {c : Cdc α} {x : α} {w w' : World} {sv v' : Value} {bad b : Bool} {L X : List Int} (h : App w 5 sv w' v' (bc X)) (hX : X = L ++ c.wr x) (hb : b = (bad || !c.ok x)) : OPost c x w sv bad L (.returned (.agg #[v', .bool b])) w' := by
  subst hX hb
  exact ⟨_, rfl, h⟩

set_option maxRecDepth 10000 in
set_option maxHeartbeats 4000000 in
theorem refReq_any (w0 w : World) (sv : Value) (bad : Bool) (L : List Int) (r : List Value) (x : PReq) (hB0 : Below w0.heap.size w0 w) (hf : Fr w0.heap.size sv) (hown : Own w 5 sv (bc L)) (hr : RReq Any w0 r x) (hl : L.length ≤ 140720000000000) (h1 : x.2.2.1.length ≤ 2147483647) (h2 : x.2.2.2.length ≤ 2147483647) :
    Calls Try.prog 48 #[.agg #[sv, .bool bad], .agg r.toArray] w (OPost cReq x w sv bad L) := by
  obtain ⟨vo, vg, rfl, ho, hg⟩ := hr
  obtain ⟨a2, hw2⟩ : ∃ a2, a2 = (w.alloc (.cells #[sv, .bool bad] 65)).alloc (.cells #[.int .i64 x.1, .int .i64 x.2.1, vo, vg] 26) := ⟨_, rfl⟩
  obtain ⟨w2, hw3⟩ : ∃ w2, w2 = a2.alloc (.cells #[.slice none 0 0, .bool false] 65) := ⟨_, rfl⟩
  have hs2 : a2.heap.size = w.heap.size + 2 := by rw [hw2]; simp
  have ra' : Row a2 w.heap.size 65 [sv, .bool bad] := by rw [hw2]; exact row_alloc (Row.new w _ _) _
  have rb' : Row a2 (w.heap.size + 1) 26 [.int .i64 x.1, .int .i64 x.2.1, vo, vg] := by
    rw [hw2]
    have := Row.new (w.alloc (.cells #[sv, .bool bad] 65)) 26 [.int .i64 x.1, .int .i64 x.2.1, vo, vg]
    simpa using this
  have ra : Row w2 w.heap.size 65 [sv, .bool bad] := by rw [hw3]; exact row_alloc ra' _
  have rb : Row w2 (w.heap.size + 1) 26 [.int .i64 x.1, .int .i64 x.2.1, vo, vg] := by rw [hw3]; exact row_alloc rb' _
  have rr : Row w2 (w.heap.size + 2) 65 [.slice none 0 0, .bool false] := by
    rw [hw3, ← hs2]
    exact Row.new a2 _ _
  have hB : Below w.heap.size w w2 := by rw [hw3, hw2]; exact (((Below.refl _ w).alloc (Nat.le_refl _) _).alloc (by simp) _).alloc (by simp; omega) _
  clear ra' rb'
  have hBw0 := below_and hB0 (Nat.le_refl _) hB
  have hoL := hown.below hB
  have hne0 := own_row_ne ra hoL (by decide)
  have hne1 := own_row_ne rb hoL (by decide)
  have hne2 := own_row_ne rr hoL (by decide)
  have HK := (show Hid (∀ u, w2.grownBy u sv.ownBlock → (u.cell? ⟨w.heap.size, 0, none⟩ = some sv ∧ u.cell? ⟨w.heap.size, 1, none⟩ = some (.bool bad)) ∧ u.cell? ⟨w.heap.size + 1, 0, none⟩ = some (.int .i64 x.1) ∧ u.cell? ⟨w.heap.size + 1, 1, none⟩ = some (.int .i64 x.2.1) ∧ u.cell? ⟨w.heap.size + 1, 2, none⟩ = some vo ∧ u.cell? ⟨w.heap.size + 1, 3, none⟩ = some vg) from
    fun u hu => ⟨⟨(ra.grown hu hne0).cell (j := 0) rfl, (ra.grown hu hne0).cell (j := 1) rfl⟩, (rb.grown hu hne1).cell (j := 0) rfl, (rb.grown hu hne1).cell (j := 1) rfl, (rb.grown hu hne1).cell (j := 2) rfl, (rb.grown hu hne1).cell (j := 3) rfl⟩)
  have HR := (show Hid (∀ u, w2.grownBy u sv.ownBlock → Rd u vo x.2.2.1 ∧ Rd u vg x.2.2.2) from fun u hu => by
    have hb := hBw0.trans (grown_below hu hBw0.size hf)
    exact ⟨(ho.mv (Mv.below hb)).1, (hg.mv (Mv.below hb)).1⟩)
  have hdw : Below w2.heap.size w2 w2.drew := ⟨rfl, rfl, rfl, Nat.le_refl _, fun _ _ => rfl⟩
  have g2 : w2.grownBy w2.drew sv.ownBlock := grown_of_below hdw _
  have hn2 : ¬ (w.heap.size = w.heap.size + 1 + 1) := by omega
  have hn3 : ¬ (w.heap.size + 1 + 1 = w.heap.size) := by omega
  have HN1 := (show Hid (∀ _ : Unit, _) from fun _ => refNum_any w2.drew sv bad L x.1 hoL.drew (by omega))
  obtain ⟨⟨k0, k1⟩, k2, k3, k4, k5⟩ := HK.out w2 (grown_of_below (Below.refl _ _) _)
  have l1 := outI_len x.1
  have l2 := outI_len x.2.1
  have l3 := enc_len (x.2.2.1.length : Int)
  have HL2 := (show Hid ((L ++ cN.wr x.1).length ≤ 140737488355300) by show _ ≤ _; rw [List.length_append]; show L.length + (outI x.1).length ≤ _; omega)
  have HL3 := (show Hid (((L ++ cN.wr x.1) ++ cN.wr x.2.1).length ≤ 140730000000000) by show _ ≤ _; rw [List.length_append, List.length_append]; show L.length + (outI x.1).length + (outI x.2.1).length ≤ _; omega)
  have HL4 := (show Hid ((((L ++ cN.wr x.1) ++ cN.wr x.2.1) ++ cT.wr x.2.2.1).length ≤ 140730000000000) by show _ ≤ _; rw [List.length_append, List.length_append, List.length_append]; show L.length + (outI x.1).length + (outI x.2.1).length + (enc x.2.2.1.length ++ x.2.2.1).length ≤ _; have h9 : (enc x.2.2.1.length ++ x.2.2.1).length = (enc x.2.2.1.length).length + x.2.2.1.length := List.length_append; omega)
  go_enter Try.func48, Try.ntmps48
  go_upto_region 1 with fail
  rw [← hw2, ← hw3]
  clear hw2 hw3 hs2 l1 l2 l3 ho hg hown hB0 hl
  go_wp2_with fail
  go_region_held3 (fun u => (u.cell? ⟨w.heap.size, 0, none⟩ = some sv ∧ u.cell? ⟨w.heap.size, 1, none⟩ = some (.bool bad)) ∧ u.cell? ⟨w.heap.size + 1, 0, none⟩ = some (.int .i64 x.1) ∧ u.cell? ⟨w.heap.size + 1, 1, none⟩ = some (.int .i64 x.2.1) ∧ u.cell? ⟨w.heap.size + 1, 2, none⟩ = some vo ∧ u.cell? ⟨w.heap.size + 1, 3, none⟩ = some vg)
    (first | exact HK.out _ (by assumption) | go_keep)
    (first
      | (go_at_call 49; refine (refText_any w5 _ _ _ vg _ a5.own (HR.out w5 a5.grown').2 HL4.out h2).mono ?_; rintro e w6 ⟨v6, rfl, q6⟩; have a6 := a5.trans q6; have gg6 := a6.grown'; obtain ⟨ao6, n6, c6, rfl⟩ := own_slice a6.own; have rr6 := rr.grown gg6 hne2; have d0 := rr6.cell (j := 0) rfl; have d1 := rr6.cell (j := 1) rfl; have z0 := rr6.frozen 0; have z1 := rr6.frozen 1; have hS6 := HK.out w6 gg6)
      | (go_at_call 49; refine (refText_any w4 _ _ _ vo _ a4.own (HR.out w4 a4.grown').1 HL3.out h1).mono ?_; rintro e w5 ⟨v5, rfl, q5⟩; have a5 := a4.trans q5; have gg5 := a5.grown')
      | (go_at_call 23; refine (refNum_any w3 _ _ _ _ a3.own HL2.out).mono ?_; rintro e w4 ⟨v4, rfl, q4⟩; have a4 := a3.trans q4; have gg4 := a4.grown')
      | (go_at_call 23; refine (HN1.out ()).mono ?_; rintro e w3 ⟨v3, rfl, q3⟩; have a3 := App.pre hdw q3; have gg3 := a3.grown'))
  have hap := App.pre hB a6
  have ho := App.box hap (by omega) rr6 (.slice ao6 n6 c6) (.bool ((((bad || !cN.ok x.1) || !cN.ok x.2.1) || !cT.ok x.2.2.1) || !cT.ok x.2.2.2))
  have hr := (rr6.set 0 (.slice ao6 n6 c6)).set 1 (.bool ((((bad || !cN.ok x.1) || !cN.ok x.2.1) || !cT.ok x.2.2.1) || !cT.ok x.2.2.2))
  go_wp2_with fail
  refine bodyPost_ret (v := .agg ([.slice ao6 n6 c6, .bool ((((bad || !cN.ok x.1) || !cN.ok x.2.1) || !cT.ok x.2.2.1) || !cT.ok x.2.2.2)] : List Value).toArray) (results_cell_row rfl _ _ (w.heap.size + 2) _ _ (0, 0) _ (by rfl) hr Try.underlying65 rfl (by kernel_rfl)) rfl ?_
  refine OPost.end ho (by simp [cReq, cP, List.append_assoc]) (by simp [cReq, cP, Bool.or_assoc])
end Go.Proofs.Ytcjflljckoliaaa
