/- msg.Body. -/
import Derived.Test.YtogifpainhepoaaY1
import Derived.Test.YtogifpainhepoaaS1
set_option linter.unusedVariables false
namespace Go.Proofs.Ytogifpainhepoaa
open Go.RowKit Oct

set_option maxRecDepth 10000 in
set_option maxHeartbeats 2000000 in
/-- msg.Body. -/
theorem body_any (w : World) (r : List Value) (x : PReq) (h : RReq Any w r x) (hz : tot [x.2.2.1, x.2.2.2] ≤ 10000000) :
    Calls Try.prog 17 #[.agg r.toArray] w fun e w' => ∃ v', e = .returned v' ∧ Own w' 5 v' (bc (body x)) ∧ Fr w.heap.size v' ∧ Below w.heap.size w w' := by
  obtain ⟨vo, vg, rfl, ho, hg⟩ := h
  obtain ⟨oo, oc, rfl, hoc⟩ := ho.form
  obtain ⟨go, gc, rfl, hgc⟩ := hg.form
  generalize hvo : Value.slice oo x.2.2.1.length oc = vo at *
  generalize hvg : Value.slice go x.2.2.2.length gc = vg at *
  obtain ⟨w2, hw2⟩ : ∃ w2, w2 = (w.alloc (.cells #[.int .i64 x.1, .int .i64 x.2.1, vo, vg] 28)) := ⟨_, rfl⟩
  have ra : Row w2 w.heap.size 28 [.int .i64 x.1, .int .i64 x.2.1, vo, vg] := by rw [hw2]; exact Row.new w 28 _
  have hB : Below w.heap.size w w2 := by rw [hw2]; exact ((Below.refl _ w).alloc (Nat.le_refl _) _)
  have a0 := ra.cell (j := 0) rfl
  go_enter Try.func17, Try.ntmps17
  go_upto_region 1 with fail
  rw [← hw2]
  clear hw2
  have a1 := ra.cell (j := 1) rfl
  have hdw : Below w2.heap.size w2 w2.drew := ⟨rfl, rfl, rfl, Nat.le_refl _, fun _ _ => rfl⟩
  have SK := (show Hid (∀ u, Below w2.heap.size w2 u → u.cell? ⟨w.heap.size, 0, none⟩ = some (.int .i64 x.1) ∧ u.cell? ⟨w.heap.size, 1, none⟩ = some (.int .i64 x.2.1)) from fun u hu => ⟨(hu.cell (p := ⟨w.heap.size, 0, none⟩) ra.lt).trans a0, (hu.cell (p := ⟨w.heap.size, 1, none⟩) ra.lt).trans a1⟩)
  have hA := appendWord_any w2.drew (.slice none 0 0) [] x.1 (Own.nil _ _) (by simp)
  rw [List.nil_append] at hA
  have HA := (show Hid (∀ _ : Unit, _) from fun _ => hA)
  clear hA
  go_wp2_with fail
  go_region_held3 (fun u => u.cell? ⟨w.heap.size, 0, none⟩ = some (.int .i64 x.1) ∧ u.cell? ⟨w.heap.size, 1, none⟩ = some (.int .i64 x.2.1))
    (first | exact SK.out _ (by assumption) | go_keep)
    (first
      | (go_at_call 40; refine (appendWord_any w3 v3 (le8 (u64 x.1)) x.2.1 happ3.own (by rw [le8_len]; decide)).mono ?_; rintro e w4 ⟨v4, rfl, happ4⟩; have hb4 : Below w2.heap.size w2 w4 := hb3.trans (happ4.below (happ3.fr (Fr.nil _) (Nat.le_refl _)) hb3.size))
      | (go_at_call 40; refine (HA.out ()).mono ?_; rintro e w3 ⟨v3, rfl, happ3⟩; have hb3 : Below w2.heap.size w2 w3 := hdw.trans (happ3.below (Fr.nil _) (Nat.le_refl _))))
  have ra4 := ra.below hb4
  have c2 := ra4.cell (j := 2) rfl
  have c3 := ra4.cell (j := 3) rfl
  have hB4 := below_and hB (Nat.le_refl _) hb4
  have ho4 := (ho.mv (Mv.below hB4)).1
  have hg4 := (hg.mv (Mv.below hB4)).1
  have hf3 := happ3.fr (Fr.nil w2.drew.heap.size) (Nat.le_refl _)
  have hf4 := happ4.fr hf3 hb3.size
  have hown4 := happ4.own
  have hl : Rdl (w4.alloc (.cells #[vo, vg] 26)) (.slice (some ⟨w4.heap.size, 0, none⟩) 2 2) [x.2.2.1, x.2.2.2] :=
    ⟨[vo, vg], Own.rdv (e := 26) (World.ownsRow_lit (base := 0) (size := 1) w4 #[vo, vg] 2 (Nat.zero_le _) (by decide) rfl), ho4.below (below_alloc _ _), hg4.below (below_alloc _ _), trivial⟩
  have hP := pack_any _ _ _ hl hz
  clear ra ra4 a0 a1 hdw SK HA happ3 happ4 hf3 hl ho4 hg4
  subst hvo hvg
  go_wp2_with fail
  refine hP.mono ?_
  rintro e w5 ⟨v5, rfl, hown5, hfr5, hb5⟩
  have hb45 : Below w4.heap.size w4 w5 := (below_alloc w4 _).trans (hb5.mono (by simp))
  have hB5 := below_and hB4 (Nat.le_refl _) hb45
  have hown4' := hown4.below hb45
  have hrd5 := hown5.rdv
  have hf4w : Fr w.heap.size v4 := hf4.mono hB.size
  have hpl := packL_len [x.2.2.1, x.2.2.2]
  have h16 : (le8 (u64 x.1) ++ le8 (u64 x.2.1)).length = 16 := rfl
  have HL := (show Hid ((le8 (u64 x.1) ++ le8 (u64 x.2.1)).length + (packL [x.2.2.1, x.2.2.2]).length ≤ 140737488355328) by show _ ≤ _; omega)
  clear hP hown4 hown5 hfr5 hb5 hb45 hf4 hb3 hpl h16 c2 c3 hb4
  go_wp2_with (at_builtin; refine app_bytes rfl _ _ rfl v4 _ rfl hown4' v5 _ rfl hrd5 HL.out ?_; intro v6 w6 happ6)
  go_ret
  exact ⟨_, rfl, happ6.own, happ6.fr hf4w hB5.size, hB5.trans (happ6.below hf4w hB5.size)⟩
end Go.Proofs.Ytogifpainhepoaa
